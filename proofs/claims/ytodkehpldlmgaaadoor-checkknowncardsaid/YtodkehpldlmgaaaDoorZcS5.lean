/- What the document makes of two spans, where it calls. -/
import Derived.Test.YtodkehpldlmgaaaDoorZcS4
import Derived.Test.YtodkehpldlmgaaaDoorZq5
import Derived.Test.YtodkehpldlmgaaaDoorZcS2
import Derived.Test.YtodkehpldlmgaaaDoorZq2
import Derived.Deep.Cut
import Derived.IntWalk
namespace Go.Proofs.YtodkehpldlmgaaaDoor
open Go.RowKit

theorem wpList_valG {ops : Array Oper} {rest : List Oper} {o : Oper} {a : Act} {w w' : World} {v : Value} {Q : Exit → Act → World → Prop} (hg : o.guard = none) (hr : (execOp a.eval o).run Tryd.prog w = .ok (.value v) w') (h : wpList Tryd.prog ops Q rest (a.put o.dst v) w') : wpList Tryd.prog ops Q (o :: rest) a w :=
  wpList_val hg hr h
theorem wpList_ldG {ops : Array Oper} {rest : List Oper} {o : Oper} {a : Act} {w : World} {Q : Exit → Act → World → Prop} (hw : Region.wanted o (yielded ops a.tmps) = true) (ty : Nat) (x : Operand) (ho : o.op = .load ty x) (ad : Addr) (hx : a.eval x = .pointer (some ad)) (v : Value)
    (hl : (loadVar ty ad).run Tryd.prog w = .ok v w) (h : wpList Tryd.prog ops Q rest (a.put o.dst v) w) : wpList Tryd.prog ops Q (o :: rest) a w := by
  unfold wpList
  rw [if_pos hw]
  refine .inl ?_
  unfold Oper.wp
  rw [run_ld ty x ho ad hx hl]
  exact h
theorem wpList_callG {ops : Array Oper} {rest : List Oper} {o : Oper} {a : Act} {w : World} {Q : Exit → Act → World → Prop} {f : FuncId} {args : Array Value} {R : Ending → World → Prop} (hw : Region.wanted o (yielded ops a.tmps) = true) (hrun : (execOp a.eval o).run Tryd.prog w = .ok (.enter f args) w) (hc : Calls Tryd.prog f args w R)
    (h : ∀ e w', R e w' → ∃ v, e = .returned v ∧ wpList Tryd.prog ops Q rest (a.put o.dst v) w') : wpList Tryd.prog ops Q (o :: rest) a w := by
  unfold wpList
  rw [if_pos hw]
  refine .inl ?_
  unfold Oper.wp
  rw [hrun]
  refine hc.mono fun e w' hr => ?_
  obtain ⟨v, rfl, hv⟩ := h e w' hr
  exact hv
set_option maxRecDepth 10000 in
set_option maxHeartbeats 4000000 in
theorem rmake_6 (dl dg sl sg : Nat) (w : World) (hb : dl ≤ dg ∧ dg < 4294967296 ∧ sl ≤ sg ∧ sg < 4294967296) :
    Calls Tryd.prog 37 #[.int .i64 6, spV dl dg, spV sl sg] w fun e w' => e = .returned (spV ((prodR ⟨true, dl, dg⟩ ⟨true, sl, sg⟩).least : Int) ((prodR ⟨true, dl, dg⟩ ⟨true, sl, sg⟩).great : Int)) ∧ Below w.heap.size w w' := by
  obtain ⟨h1, h2, h3, h4⟩ := hb
  have hpr := fun W => rprod_any dl dg sl sg h1 h2 h3 h4 W
  obtain ⟨q, hq⟩ : ∃ q, q = wideR (dl * sl) (dg * sg) := ⟨_, rfl⟩
  have HQ : Hid (prodR ⟨true, dl, dg⟩ ⟨true, sl, sg⟩ = q) := by show _ = _; rw [hq]; rfl
  rw [← hq] at hpr
  clear hq h1 h2 h3 h4
  obtain ⟨W0, hW0⟩ : ∃ W0, W0 = ((w.alloc (.cells #[.int .i64 dl, .int .i64 dg] 86)).alloc (.cells #[.int .i64 sl, .int .i64 sg] 86)).alloc (.cells #[.int .i64 0, .int .i64 0] 86) := ⟨_, rfl⟩
  have hd0 : Has W0 w.heap.size #[.int .i64 dl, .int .i64 dg] 86 := by rw [hW0]; exact has_old (has_old (has_new _ _ _ _ rfl))
  have hs0 : Has W0 (w.heap.size + 1) #[.int .i64 sl, .int .i64 sg] 86 := by rw [hW0]; exact has_old (has_new _ _ _ _ (by simp))
  have h60 : Has W0 (w.heap.size + 2) #[.int .i64 0, .int .i64 0] 86 := by rw [hW0]; exact has_new _ _ _ _ (by simp)
  have hB0 : Below w.heap.size w W0 := by rw [hW0]; exact (((Below.refl _ _).alloc (Nat.le_refl _) _).alloc (by simp) _).alloc (by simp; omega) _
  go_enter Tryd.func37, Tryd.ntmps37
  go_upto_region 16 with fail
  rw [← hW0]
  clear hW0
  refine wp_region_lit ?_
  refine wpList_load_row_if rfl 86 _ rfl w.heap.size (by kernel_rfl) 86 #[.int .i64 (dl : Int), .int .i64 (dg : Int)] (0, 0) _ hd0 Tryd.underlying86 rfl (by kernel_rfl) ?_
  refine wpList_load_row_if rfl 86 _ rfl (w.heap.size + 1) (by kernel_rfl) 86 #[.int .i64 (sl : Int), .int .i64 (sg : Int)] (0, 0) _ hs0 Tryd.underlying86 rfl (by kernel_rfl) ?_
  go_simp
  refine wpList_callG (f := 67) (args := #[spV dl dg, spV sl sg]) rfl (by kernel_rfl) (hpr W0) ?_
  rintro e W1 ⟨rfl, hB1⟩
  refine ⟨_, rfl, ?_⟩
  have h61 := h60.below hB1 h60.lt
  go_simp
  refine wpList_store_row rfl 86 _ _ rfl (w.heap.size + 2) #[.int .i64 (q.least : Int), .int .i64 (q.great : Int)] (by kernel_rfl) (by kernel_rfl) 86 #[.int .i64 0, .int .i64 0] h61 (by kernel_rfl) (by kernel_rfl) (by kernel_rfl) ?_
  have hrow : Has (W1.setRow (w.heap.size + 2) #[.int .i64 (q.least : Int), .int .i64 (q.great : Int)]) (w.heap.size + 2) #[.int .i64 (q.least : Int), .int .i64 (q.great : Int)] 86 := setRow_has h61 _
  have hBx : Below w.heap.size w (W1.setRow (w.heap.size + 2) #[.int .i64 (q.least : Int), .int .i64 (q.great : Int)]) := setRow_below (hB0.trans (hB1.mono hB0.size)) (by omega) _
  generalize W1.setRow (w.heap.size + 2) #[.int .i64 (q.least : Int), .int .i64 (q.great : Int)] = W2 at *
  clear h61 hd0 hs0 h60 hpr
  go_simp
  go_wp2_with fail
  exact bodyPost_ret (results_cell_row rfl _ _ (w.heap.size + 2) 86 _ (0, 0) _ rfl hrow Tryd.underlying86 rfl (by kernel_rfl)) rfl ⟨by rw [HQ.out], hBx⟩
set_option maxRecDepth 10000 in
set_option maxHeartbeats 4000000 in
theorem rmake_7 (dl dg sl sg : Nat) (w : World) (hb : dl ≤ dg ∧ dg < 4294967296 ∧ sl ≤ sg ∧ sg < 4294967296) :
    Calls Tryd.prog 37 #[.int .i64 7, spV dl dg, spV sl sg] w fun e w' => e = .returned (spV ((prodR ⟨true, dl, dg⟩ ⟨true, sl, sg⟩).least : Int) ((prodR ⟨true, dl, dg⟩ ⟨true, sl, sg⟩).great : Int)) ∧ Below w.heap.size w w' := by
  obtain ⟨h1, h2, h3, h4⟩ := hb
  have hpr := fun W => rprod_any dl dg sl sg h1 h2 h3 h4 W
  obtain ⟨q, hq⟩ : ∃ q, q = wideR (dl * sl) (dg * sg) := ⟨_, rfl⟩
  have HQ : Hid (prodR ⟨true, dl, dg⟩ ⟨true, sl, sg⟩ = q) := by show _ = _; rw [hq]; rfl
  rw [← hq] at hpr
  clear hq h1 h2 h3 h4
  obtain ⟨W0, hW0⟩ : ∃ W0, W0 = ((w.alloc (.cells #[.int .i64 dl, .int .i64 dg] 86)).alloc (.cells #[.int .i64 sl, .int .i64 sg] 86)).alloc (.cells #[.int .i64 0, .int .i64 0] 86) := ⟨_, rfl⟩
  have hd0 : Has W0 w.heap.size #[.int .i64 dl, .int .i64 dg] 86 := by rw [hW0]; exact has_old (has_old (has_new _ _ _ _ rfl))
  have hs0 : Has W0 (w.heap.size + 1) #[.int .i64 sl, .int .i64 sg] 86 := by rw [hW0]; exact has_old (has_new _ _ _ _ (by simp))
  have h60 : Has W0 (w.heap.size + 2) #[.int .i64 0, .int .i64 0] 86 := by rw [hW0]; exact has_new _ _ _ _ (by simp)
  have hB0 : Below w.heap.size w W0 := by rw [hW0]; exact (((Below.refl _ _).alloc (Nat.le_refl _) _).alloc (by simp) _).alloc (by simp; omega) _
  go_enter Tryd.func37, Tryd.ntmps37
  go_upto_region 16 with fail
  rw [← hW0]
  clear hW0
  refine wp_region_lit ?_
  refine wpList_load_row_if rfl 86 _ rfl w.heap.size (by kernel_rfl) 86 #[.int .i64 (dl : Int), .int .i64 (dg : Int)] (0, 0) _ hd0 Tryd.underlying86 rfl (by kernel_rfl) ?_
  refine wpList_load_row_if rfl 86 _ rfl (w.heap.size + 1) (by kernel_rfl) 86 #[.int .i64 (sl : Int), .int .i64 (sg : Int)] (0, 0) _ hs0 Tryd.underlying86 rfl (by kernel_rfl) ?_
  go_simp
  refine wpList_callG (f := 67) (args := #[spV dl dg, spV sl sg]) rfl (by kernel_rfl) (hpr W0) ?_
  rintro e W1 ⟨rfl, hB1⟩
  refine ⟨_, rfl, ?_⟩
  have h61 := h60.below hB1 h60.lt
  go_simp
  refine wpList_store_row rfl 86 _ _ rfl (w.heap.size + 2) #[.int .i64 (q.least : Int), .int .i64 (q.great : Int)] (by kernel_rfl) (by kernel_rfl) 86 #[.int .i64 0, .int .i64 0] h61 (by kernel_rfl) (by kernel_rfl) (by kernel_rfl) ?_
  have hrow : Has (W1.setRow (w.heap.size + 2) #[.int .i64 (q.least : Int), .int .i64 (q.great : Int)]) (w.heap.size + 2) #[.int .i64 (q.least : Int), .int .i64 (q.great : Int)] 86 := setRow_has h61 _
  have hBx : Below w.heap.size w (W1.setRow (w.heap.size + 2) #[.int .i64 (q.least : Int), .int .i64 (q.great : Int)]) := setRow_below (hB0.trans (hB1.mono hB0.size)) (by omega) _
  generalize W1.setRow (w.heap.size + 2) #[.int .i64 (q.least : Int), .int .i64 (q.great : Int)] = W2 at *
  clear h61 hd0 hs0 h60 hpr
  go_simp
  go_wp2_with fail
  exact bodyPost_ret (results_cell_row rfl _ _ (w.heap.size + 2) 86 _ (0, 0) _ rfl hrow Tryd.underlying86 rfl (by kernel_rfl)) rfl ⟨by rw [HQ.out], hBx⟩
set_option maxRecDepth 10000 in
set_option maxHeartbeats 4000000 in
theorem rmake_10 (dl dg sl sg : Nat) (w : World) (hb : dl ≤ dg ∧ dg < 4294967296 ∧ sl ≤ sg ∧ sg < 4294967296) :
    Calls Tryd.prog 37 #[.int .i64 10, spV dl dg, spV sl sg] w fun e w' => e = .returned (spV ((eitR ⟨true, dl, dg⟩ ⟨true, sl, sg⟩).least : Int) ((eitR ⟨true, dl, dg⟩ ⟨true, sl, sg⟩).great : Int)) ∧ Below w.heap.size w w' := by
  obtain ⟨h1, h2, h3, h4⟩ := hb
  obtain ⟨ml, hml⟩ : ∃ ml, ml = max dl sl := ⟨_, rfl⟩
  obtain ⟨mg, hmg⟩ : ∃ mg, mg = max dg sg := ⟨_, rfl⟩
  have HML : Hid (ml = max dl sl ∧ mg = max dg sg) := ⟨hml, hmg⟩
  have hro := fun W => rones_any mg (by omega) W
  have HQ : Hid (eitR ⟨true, dl, dg⟩ ⟨true, sl, sg⟩ = fromR ml (onesN mg)) := by show _ = _; rw [hml, hmg]; rfl
  generalize onesN mg = og at *
  clear hml hmg h1 h2 h3 h4
  obtain ⟨W0, hW0⟩ : ∃ W0, W0 = ((w.alloc (.cells #[.int .i64 dl, .int .i64 dg] 86)).alloc (.cells #[.int .i64 sl, .int .i64 sg] 86)).alloc (.cells #[.int .i64 0, .int .i64 0] 86) := ⟨_, rfl⟩
  have hd0 : Has W0 w.heap.size #[.int .i64 dl, .int .i64 dg] 86 := by rw [hW0]; exact has_old (has_old (has_new _ _ _ _ rfl))
  have hs0 : Has W0 (w.heap.size + 1) #[.int .i64 sl, .int .i64 sg] 86 := by rw [hW0]; exact has_old (has_new _ _ _ _ (by simp))
  have h60 : Has W0 (w.heap.size + 2) #[.int .i64 0, .int .i64 0] 86 := by rw [hW0]; exact has_new _ _ _ _ (by simp)
  have hB0 : Below w.heap.size w W0 := by rw [hW0]; exact (((Below.refl _ _).alloc (Nat.le_refl _) _).alloc (by simp) _).alloc (by simp; omega) _
  go_enter Tryd.func37, Tryd.ntmps37
  go_upto_region 21 with fail
  rw [← hW0]
  clear hW0
  refine wp_region_inv (Φ := fun l vs X => Vals (fun q => match q with | 0 => some (.pointer (some ⟨w.heap.size, 0, none⟩)) | 1 => some (.int .i64 (dl : Int)) | 2 => some (.pointer (some ⟨w.heap.size + 1, 0, none⟩)) | 3 => some (.int .i64 (sl : Int)) | 4 => some (.int .i64 (ml : Int)) | 5 => some (.pointer (some ⟨w.heap.size, 1, none⟩)) | 6 => some (.int .i64 (dg : Int)) | 7 => some (.pointer (some ⟨w.heap.size + 1, 1, none⟩)) | 8 => some (.int .i64 (sg : Int)) | 9 => some (.int .i64 (mg : Int)) | 10 => some (.int .i64 (og : Int)) | 11 => some (.agg #[.int .i64 (ml : Int), .int .i64 (og : Int)]) | _ => none) l vs ∧ Pre1 12 (Below W0.heap.size W0) ((fun X => Has X (w.heap.size + 2) #[.int .i64 (ml : Int), .int .i64 (og : Int)] 86 ∧ Below w.heap.size w X)) l X) (PQ := fun _ _ => False)
    (by kernel_rfl) (by kernel_rfl) (by kernel_rfl) (by kernel_rfl) ⟨Vals.none _ _, Pre1.start ((Below.refl _ _).drew)⟩ ?hop ?hend (fun _ _ _ _ h => h.elim)
  case hop =>
    refine ⟨?_, ?_, ?_, ?_, ?_, ?_, ?_, ?_, ?_, ?_, ?_, ?_, ?_, trivial⟩
    · intro l vs X A hA ⟨hV, hS⟩ hl hd hcl
      have hk := nY 12 hcl hl
      have hX := hS.1 hk
      have hB := hX
      have a4 := eO hA 4 rfl
      refine show_value (v := .pointer (some ⟨w.heap.size, 0, none⟩)) (X' := X) ?_ ⟨hV.upd (fun _ h => Option.some.inj h), Pre1.keep hk (by decide) (hX)⟩
      generalize A.eval = ρ at *
      clear hA hl hd hcl hV hS
      go_simp
    · intro l vs X A hA ⟨hV, hS⟩ hl hd hcl
      have hk := nY 12 hcl hl
      have hX := hS.1 hk
      have hB := hX
      have a69 := eN hA 69 0 hd hV rfl
      have cc : X.cell? ⟨w.heap.size, 0, none⟩ = some (.int .i64 (dl : Int)) := (hd0.below hB hd0.lt).cell 0
      refine show_value (v := .int .i64 (dl : Int)) (X' := X) ?_ ⟨hV.upd (fun _ h => Option.some.inj h), Pre1.keep hk (by decide) (hX)⟩
      generalize A.eval = ρ at *
      clear hA hl hd hcl hV hS hX hB
      go_simp
    · intro l vs X A hA ⟨hV, hS⟩ hl hd hcl
      have hk := nY 12 hcl hl
      have hX := hS.1 hk
      have hB := hX
      have a5 := eO hA 5 rfl
      refine show_value (v := .pointer (some ⟨w.heap.size + 1, 0, none⟩)) (X' := X) ?_ ⟨hV.upd (fun _ h => Option.some.inj h), Pre1.keep hk (by decide) (hX)⟩
      generalize A.eval = ρ at *
      clear hA hl hd hcl hV hS
      go_simp
    · intro l vs X A hA ⟨hV, hS⟩ hl hd hcl
      have hk := nY 12 hcl hl
      have hX := hS.1 hk
      have hB := hX
      have a71 := eN hA 71 2 hd hV rfl
      have cc : X.cell? ⟨w.heap.size + 1, 0, none⟩ = some (.int .i64 (sl : Int)) := (hs0.below hB hs0.lt).cell 0
      refine show_value (v := .int .i64 (sl : Int)) (X' := X) ?_ ⟨hV.upd (fun _ h => Option.some.inj h), Pre1.keep hk (by decide) (hX)⟩
      generalize A.eval = ρ at *
      clear hA hl hd hcl hV hS hX hB
      go_simp
    · intro l vs X A hA ⟨hV, hS⟩ hl hd hcl
      have hk := nY 12 hcl hl
      have hX := hS.1 hk
      have hB := hX
      have a70 := eN hA 70 1 hd hV rfl
      have a72 := eN hA 72 3 hd hV rfl
      have hm := HML.out.1
      refine show_value (v := .int .i64 (ml : Int)) (X' := X) ?_ ⟨hV.upd (fun _ h => Option.some.inj h), Pre1.keep hk (by decide) (hX)⟩
      generalize A.eval = ρ at *
      clear hA hl hd hcl hV hS hX hB
      go_simp
      split <;> omega
    · intro l vs X A hA ⟨hV, hS⟩ hl hd hcl
      have hk := nY 12 hcl hl
      have hX := hS.1 hk
      have hB := hX
      have a4 := eO hA 4 rfl
      refine show_value (v := .pointer (some ⟨w.heap.size, 1, none⟩)) (X' := X) ?_ ⟨hV.upd (fun _ h => Option.some.inj h), Pre1.keep hk (by decide) (hX)⟩
      generalize A.eval = ρ at *
      clear hA hl hd hcl hV hS
      go_simp
    · intro l vs X A hA ⟨hV, hS⟩ hl hd hcl
      have hk := nY 12 hcl hl
      have hX := hS.1 hk
      have hB := hX
      have a74 := eN hA 74 5 hd hV rfl
      have cc : X.cell? ⟨w.heap.size, 1, none⟩ = some (.int .i64 (dg : Int)) := (hd0.below hB hd0.lt).cell 1
      refine show_value (v := .int .i64 (dg : Int)) (X' := X) ?_ ⟨hV.upd (fun _ h => Option.some.inj h), Pre1.keep hk (by decide) (hX)⟩
      generalize A.eval = ρ at *
      clear hA hl hd hcl hV hS hX hB
      go_simp
    · intro l vs X A hA ⟨hV, hS⟩ hl hd hcl
      have hk := nY 12 hcl hl
      have hX := hS.1 hk
      have hB := hX
      have a5 := eO hA 5 rfl
      refine show_value (v := .pointer (some ⟨w.heap.size + 1, 1, none⟩)) (X' := X) ?_ ⟨hV.upd (fun _ h => Option.some.inj h), Pre1.keep hk (by decide) (hX)⟩
      generalize A.eval = ρ at *
      clear hA hl hd hcl hV hS
      go_simp
    · intro l vs X A hA ⟨hV, hS⟩ hl hd hcl
      have hk := nY 12 hcl hl
      have hX := hS.1 hk
      have hB := hX
      have a76 := eN hA 76 7 hd hV rfl
      have cc : X.cell? ⟨w.heap.size + 1, 1, none⟩ = some (.int .i64 (sg : Int)) := (hs0.below hB hs0.lt).cell 1
      refine show_value (v := .int .i64 (sg : Int)) (X' := X) ?_ ⟨hV.upd (fun _ h => Option.some.inj h), Pre1.keep hk (by decide) (hX)⟩
      generalize A.eval = ρ at *
      clear hA hl hd hcl hV hS hX hB
      go_simp
    · intro l vs X A hA ⟨hV, hS⟩ hl hd hcl
      have hk := nY 12 hcl hl
      have hX := hS.1 hk
      have hB := hX
      have a75 := eN hA 75 6 hd hV rfl
      have a77 := eN hA 77 8 hd hV rfl
      have hm := HML.out.2
      refine show_value (v := .int .i64 (mg : Int)) (X' := X) ?_ ⟨hV.upd (fun _ h => Option.some.inj h), Pre1.keep hk (by decide) (hX)⟩
      generalize A.eval = ρ at *
      clear hA hl hd hcl hV hS hX hB
      go_simp
      split <;> omega
    · intro l vs X A hA ⟨hV, hS⟩ hl hd hcl
      have hk := nY 12 hcl hl
      have hX := hS.1 hk
      have hB := hX
      have a78 := eN hA 78 9 hd hV rfl
      have aF0 : A.eval (.func 68) = .func (.func 68) #[] #[] := rfl
      refine show_call (f := 68) (args := #[.int .i64 (mg : Int)]) ?_ (hro X) ?_
      · generalize A.eval = ρ at *
        clear hA hl hd hcl hV hS
        go_simp
      · rintro e X' ⟨rfl, rfl⟩
        exact .inl ⟨_, rfl, hV.upd (fun _ h => Option.some.inj h), Pre1.keep hk (by decide) (hX)⟩
    · intro l vs X A hA ⟨hV, hS⟩ hl hd hcl
      have hk := nY 12 hcl hl
      have hX := hS.1 hk
      have hB := hX
      have a73 := eN hA 73 4 hd hV rfl
      have a79 := eN hA 79 10 hd hV rfl
      refine show_value (v := .agg #[.int .i64 (ml : Int), .int .i64 (og : Int)]) (X' := X) ?_ ⟨hV.upd (fun _ h => Option.some.inj h), Pre1.keep hk (by decide) (hX)⟩
      generalize A.eval = ρ at *
      clear hA hl hd hcl hV hS
      go_simp
    · intro l vs X A hA ⟨hV, hS⟩ hl hd hcl
      have hX := hS.1 hl
      have hB := hX
      have a6 := eO hA 6 rfl
      have a80 := eN hA 80 11 hd hV rfl
      have h6x := h60.below hX h60.lt
      exact show_skip (X' := X.setRow (w.heap.size + 2) #[.int .i64 (ml : Int), .int .i64 (og : Int)]) (run_st_row 86 _ _ rfl (w.heap.size + 2) #[.int .i64 (ml : Int), .int .i64 (og : Int)] #[.int .i64 0, .int .i64 0] 86 a6 a80 h6x (by kernel_rfl) (by kernel_rfl) (by kernel_rfl)) ⟨hV.upd (fun _ h => by cases h), Pre1.last ⟨setRow_has h6x _, setRow_below (hB0.trans (hX.mono hB0.size)) (by omega) _⟩⟩
  case hend =>
    intro l vs X hl ⟨hV, hS⟩
    have hX := hS.2 (hl 12 (by decide))
    have v0 := hV 0 _ (hl 0 (by decide)) rfl
    have v1 := hV 1 _ (hl 1 (by decide)) rfl
    have v2 := hV 2 _ (hl 2 (by decide)) rfl
    have v3 := hV 3 _ (hl 3 (by decide)) rfl
    have v4 := hV 4 _ (hl 4 (by decide)) rfl
    have v5 := hV 5 _ (hl 5 (by decide)) rfl
    have v6 := hV 6 _ (hl 6 (by decide)) rfl
    have v7 := hV 7 _ (hl 7 (by decide)) rfl
    have v8 := hV 8 _ (hl 8 (by decide)) rfl
    have v9 := hV 9 _ (hl 9 (by decide)) rfl
    have v10 := hV 10 _ (hl 10 (by decide)) rfl
    have v11 := hV 11 _ (hl 11 (by decide)) rfl
    clear hV hS hl
    simp only [canonL, if_true, v0, v1, v2, v3, v4, v5, v6, v7, v8, v9, v10, v11]
    clear v0 v1 v2 v3 v4 v5 v6 v7 v8 v9 v10 v11
    go_simp
    obtain ⟨hrow, hBx⟩ := hX
    go_wp2_with fail
    exact bodyPost_ret (results_cell_row rfl _ _ (w.heap.size + 2) 86 _ (0, 0) _ rfl hrow Tryd.underlying86 rfl (by kernel_rfl)) rfl ⟨by rw [HQ.out]; rfl, hBx⟩
set_option maxRecDepth 10000 in
set_option maxHeartbeats 4000000 in
theorem rmake_12 (dl dg sl sg : Nat) (w : World) (hb : dl ≤ dg ∧ dg < 4294967296 ∧ sl ≤ sg ∧ sg < 4294967296) (hp : sl ≤ 31) :
    Calls Tryd.prog 37 #[.int .i64 12, spV dl dg, spV sl sg] w fun e w' => e = .returned (spV ((prodR ⟨true, dl, dg⟩ ⟨true, 2 ^ sl, 2 ^ sl⟩).least : Int) ((prodR ⟨true, dl, dg⟩ ⟨true, 2 ^ sl, 2 ^ sl⟩).great : Int)) ∧ Below w.heap.size w w' := by
  obtain ⟨h1, h2, h3, h4⟩ := hb
  obtain ⟨P, hP⟩ : ∃ P, P = 2 ^ sl := ⟨_, rfl⟩
  have hPl : P < 4294967296 ∧ 0 < P := by
    have a1 : 2 ^ sl ≤ 2 ^ 31 := Nat.pow_le_pow_right (by decide) hp
    have a2 : (2 : Nat) ^ 31 = 2147483648 := by decide
    have a3 : 0 < 2 ^ sl := Nat.pow_pos (by decide)
    omega
  have hpw : ∀ X, Calls Tryd.prog 69 #[.int .i64 (sl : Int)] X fun e X' => e = .returned (.int .i64 (P : Int)) ∧ X = X' := fun X => by rw [hP]; exact rpower_any sl hp X
  have hpr := fun W => rprod_any dl dg P P h1 h2 (Nat.le_refl _) hPl.1 W
  obtain ⟨qq, hq⟩ : ∃ qq, qq = wideR (dl * P) (dg * P) := ⟨_, rfl⟩
  have HQ : Hid (prodR ⟨true, dl, dg⟩ ⟨true, 2 ^ sl, 2 ^ sl⟩ = qq) := by show _ = _; rw [hq, hP]; rfl
  rw [← hq] at hpr
  clear hq hP hPl h1 h2 h3 h4 hp
  obtain ⟨W0, hW0⟩ : ∃ W0, W0 = ((w.alloc (.cells #[.int .i64 dl, .int .i64 dg] 86)).alloc (.cells #[.int .i64 sl, .int .i64 sg] 86)).alloc (.cells #[.int .i64 0, .int .i64 0] 86) := ⟨_, rfl⟩
  have hd0 : Has W0 w.heap.size #[.int .i64 dl, .int .i64 dg] 86 := by rw [hW0]; exact has_old (has_old (has_new _ _ _ _ rfl))
  have hs0 : Has W0 (w.heap.size + 1) #[.int .i64 sl, .int .i64 sg] 86 := by rw [hW0]; exact has_old (has_new _ _ _ _ (by simp))
  have h60 : Has W0 (w.heap.size + 2) #[.int .i64 0, .int .i64 0] 86 := by rw [hW0]; exact has_new _ _ _ _ (by simp)
  have hB0 : Below w.heap.size w W0 := by rw [hW0]; exact (((Below.refl _ _).alloc (Nat.le_refl _) _).alloc (by simp) _).alloc (by simp; omega) _
  go_enter Tryd.func37, Tryd.ntmps37
  go_upto_region 25 with fail
  rw [← hW0]
  clear hW0
  refine wp_region_inv (Φ := fun l vs X => Vals (fun q => match q with | 0 => some (spV dl dg) | 1 => some (.pointer (some ⟨w.heap.size + 1, 0, none⟩)) | 2 => some (.int .i64 (sl : Int)) | 3 => some (.int .i64 (P : Int)) | 4 => some (.pointer (some ⟨w.heap.size + 1, 0, none⟩)) | 5 => some (.int .i64 (sl : Int)) | 6 => some (.int .i64 (P : Int)) | 7 => some (.agg #[.int .i64 (P : Int), .int .i64 (P : Int)]) | 8 => some (.agg #[.int .i64 (qq.least : Int), .int .i64 (qq.great : Int)]) | _ => none) l vs ∧ Pre1 9 (Below W0.heap.size W0) ((fun X => Has X (w.heap.size + 2) #[.int .i64 (qq.least : Int), .int .i64 (qq.great : Int)] 86 ∧ Below w.heap.size w X)) l X) (PQ := fun _ _ => False)
    (by kernel_rfl) (by kernel_rfl) (by kernel_rfl) (by kernel_rfl) ⟨Vals.none _ _, Pre1.start ((Below.refl _ _).drew)⟩ ?hop ?hend (fun _ _ _ _ h => h.elim)
  case hop =>
    refine ⟨?_, ?_, ?_, ?_, ?_, ?_, ?_, ?_, ?_, ?_, trivial⟩
    · intro l vs X A hA ⟨hV, hS⟩ hl hd hcl
      have hk := nY 9 hcl hl
      have hX := hS.1 hk
      have hB := hX
      have a4 := eO hA 4 rfl
      refine show_value (v := spV dl dg) (X' := X) (run_ld 86 _ rfl _ a4 (ld_row (l := [.int .i64 (dl : Int), .int .i64 (dg : Int)]) (has_whole (hd0.below hB hd0.lt)) (by kernel_rfl))) ⟨hV.upd (fun _ h => Option.some.inj h), Pre1.keep hk (by decide) (hX)⟩
    · intro l vs X A hA ⟨hV, hS⟩ hl hd hcl
      have hk := nY 9 hcl hl
      have hX := hS.1 hk
      have hB := hX
      have a5 := eO hA 5 rfl
      refine show_value (v := .pointer (some ⟨w.heap.size + 1, 0, none⟩)) (X' := X) ?_ ⟨hV.upd (fun _ h => Option.some.inj h), Pre1.keep hk (by decide) (hX)⟩
      generalize A.eval = ρ at *
      clear hA hl hd hcl hV hS
      go_simp
    · intro l vs X A hA ⟨hV, hS⟩ hl hd hcl
      have hk := nY 9 hcl hl
      have hX := hS.1 hk
      have hB := hX
      have a93 := eN hA 93 1 hd hV rfl
      have cc : X.cell? ⟨w.heap.size + 1, 0, none⟩ = some (.int .i64 (sl : Int)) := (hs0.below hB hs0.lt).cell 0
      refine show_value (v := .int .i64 (sl : Int)) (X' := X) ?_ ⟨hV.upd (fun _ h => Option.some.inj h), Pre1.keep hk (by decide) (hX)⟩
      generalize A.eval = ρ at *
      clear hA hl hd hcl hV hS hX hB
      go_simp
    · intro l vs X A hA ⟨hV, hS⟩ hl hd hcl
      have hk := nY 9 hcl hl
      have hX := hS.1 hk
      have hB := hX
      have a94 := eN hA 94 2 hd hV rfl
      have aF0 : A.eval (.func 69) = .func (.func 69) #[] #[] := rfl
      refine show_call (f := 69) (args := #[.int .i64 (sl : Int)]) ?_ (hpw X) ?_
      · generalize A.eval = ρ at *
        clear hA hl hd hcl hV hS
        go_simp
      · rintro e X' ⟨rfl, rfl⟩
        exact .inl ⟨_, rfl, hV.upd (fun _ h => Option.some.inj h), Pre1.keep hk (by decide) (hX)⟩
    · intro l vs X A hA ⟨hV, hS⟩ hl hd hcl
      have hk := nY 9 hcl hl
      have hX := hS.1 hk
      have hB := hX
      have a5 := eO hA 5 rfl
      refine show_value (v := .pointer (some ⟨w.heap.size + 1, 0, none⟩)) (X' := X) ?_ ⟨hV.upd (fun _ h => Option.some.inj h), Pre1.keep hk (by decide) (hX)⟩
      generalize A.eval = ρ at *
      clear hA hl hd hcl hV hS
      go_simp
    · intro l vs X A hA ⟨hV, hS⟩ hl hd hcl
      have hk := nY 9 hcl hl
      have hX := hS.1 hk
      have hB := hX
      have a96 := eN hA 96 4 hd hV rfl
      have cc : X.cell? ⟨w.heap.size + 1, 0, none⟩ = some (.int .i64 (sl : Int)) := (hs0.below hB hs0.lt).cell 0
      refine show_value (v := .int .i64 (sl : Int)) (X' := X) ?_ ⟨hV.upd (fun _ h => Option.some.inj h), Pre1.keep hk (by decide) (hX)⟩
      generalize A.eval = ρ at *
      clear hA hl hd hcl hV hS hX hB
      go_simp
    · intro l vs X A hA ⟨hV, hS⟩ hl hd hcl
      have hk := nY 9 hcl hl
      have hX := hS.1 hk
      have hB := hX
      have a97 := eN hA 97 5 hd hV rfl
      have aF0 : A.eval (.func 69) = .func (.func 69) #[] #[] := rfl
      refine show_call (f := 69) (args := #[.int .i64 (sl : Int)]) ?_ (hpw X) ?_
      · generalize A.eval = ρ at *
        clear hA hl hd hcl hV hS
        go_simp
      · rintro e X' ⟨rfl, rfl⟩
        exact .inl ⟨_, rfl, hV.upd (fun _ h => Option.some.inj h), Pre1.keep hk (by decide) (hX)⟩
    · intro l vs X A hA ⟨hV, hS⟩ hl hd hcl
      have hk := nY 9 hcl hl
      have hX := hS.1 hk
      have hB := hX
      have a95 := eN hA 95 3 hd hV rfl
      have a98 := eN hA 98 6 hd hV rfl
      refine show_value (v := .agg #[.int .i64 (P : Int), .int .i64 (P : Int)]) (X' := X) ?_ ⟨hV.upd (fun _ h => Option.some.inj h), Pre1.keep hk (by decide) (hX)⟩
      generalize A.eval = ρ at *
      clear hA hl hd hcl hV hS
      go_simp
    · intro l vs X A hA ⟨hV, hS⟩ hl hd hcl
      have hk := nY 9 hcl hl
      have hX := hS.1 hk
      have hB := hX
      have a92 := eN hA 92 0 hd hV rfl
      have a99 := eN hA 99 7 hd hV rfl
      have aF0 : A.eval (.func 67) = .func (.func 67) #[] #[] := rfl
      refine show_call (f := 67) (args := #[spV dl dg, .agg #[.int .i64 (P : Int), .int .i64 (P : Int)]]) ?_ (hpr X) ?_
      · generalize A.eval = ρ at *
        clear hA hl hd hcl hV hS
        go_simp
      · rintro e X' ⟨rfl, hB1⟩
        exact .inl ⟨_, rfl, hV.upd (fun _ h => Option.some.inj h), Pre1.keep hk (by decide) (hX.trans (hB1.mono hX.size))⟩
    · intro l vs X A hA ⟨hV, hS⟩ hl hd hcl
      have hX := hS.1 hl
      have hB := hX
      have a6 := eO hA 6 rfl
      have a100 := eN hA 100 8 hd hV rfl
      have h6x := h60.below hX h60.lt
      exact show_skip (X' := X.setRow (w.heap.size + 2) #[.int .i64 (qq.least : Int), .int .i64 (qq.great : Int)]) (run_st_row 86 _ _ rfl (w.heap.size + 2) #[.int .i64 (qq.least : Int), .int .i64 (qq.great : Int)] #[.int .i64 0, .int .i64 0] 86 a6 a100 h6x (by kernel_rfl) (by kernel_rfl) (by kernel_rfl)) ⟨hV.upd (fun _ h => by cases h), Pre1.last ⟨setRow_has h6x _, setRow_below (hB0.trans (hX.mono hB0.size)) (by omega) _⟩⟩
  case hend =>
    intro l vs X hl ⟨hV, hS⟩
    have hX := hS.2 (hl 9 (by decide))
    have v0 := hV 0 _ (hl 0 (by decide)) rfl
    have v1 := hV 1 _ (hl 1 (by decide)) rfl
    have v2 := hV 2 _ (hl 2 (by decide)) rfl
    have v3 := hV 3 _ (hl 3 (by decide)) rfl
    have v4 := hV 4 _ (hl 4 (by decide)) rfl
    have v5 := hV 5 _ (hl 5 (by decide)) rfl
    have v6 := hV 6 _ (hl 6 (by decide)) rfl
    have v7 := hV 7 _ (hl 7 (by decide)) rfl
    have v8 := hV 8 _ (hl 8 (by decide)) rfl
    clear hV hS hl
    simp only [canonL, if_true, v0, v1, v2, v3, v4, v5, v6, v7, v8]
    clear v0 v1 v2 v3 v4 v5 v6 v7 v8
    go_simp
    obtain ⟨hrow, hBx⟩ := hX
    go_wp2_with fail
    exact bodyPost_ret (results_cell_row rfl _ _ (w.heap.size + 2) 86 _ (0, 0) _ rfl hrow Tryd.underlying86 rfl (by kernel_rfl)) rfl ⟨by rw [HQ.out], hBx⟩
set_option maxRecDepth 10000 in
set_option maxHeartbeats 4000000 in
theorem rmake_13 (dl dg sl sg : Nat) (w : World) (hb : dl ≤ dg ∧ dg < 4294967296 ∧ sl ≤ sg ∧ sg < 4294967296) (hp : sl ≤ 31) :
    Calls Tryd.prog 37 #[.int .i64 13, spV dl dg, spV sl sg] w fun e w' => e = .returned (spV ((quoR ⟨true, dl, dg⟩ ⟨true, 2 ^ sl, 2 ^ sl⟩).least : Int) ((quoR ⟨true, dl, dg⟩ ⟨true, 2 ^ sl, 2 ^ sl⟩).great : Int)) ∧ Below w.heap.size w w' := by
  obtain ⟨h1, h2, h3, h4⟩ := hb
  obtain ⟨P, hP⟩ : ∃ P, P = 2 ^ sl := ⟨_, rfl⟩
  have hPl : P < 4294967296 ∧ 0 < P := by
    have a1 : 2 ^ sl ≤ 2 ^ 31 := Nat.pow_le_pow_right (by decide) hp
    have a2 : (2 : Nat) ^ 31 = 2147483648 := by decide
    have a3 : 0 < 2 ^ sl := Nat.pow_pos (by decide)
    omega
  have hpw : ∀ X, Calls Tryd.prog 69 #[.int .i64 (sl : Int)] X fun e X' => e = .returned (.int .i64 (P : Int)) ∧ X = X' := fun X => by rw [hP]; exact rpower_any sl hp X
  obtain ⟨QL, hQL⟩ : ∃ QL, QL = dl / P := ⟨_, rfl⟩
  obtain ⟨QG, hQG⟩ : ∃ QG, QG = dg / P := ⟨_, rfl⟩
  have HD : Hid (IntKind.i64.wrap ((dl : Int) / (P : Int)) = (QL : Int) ∧ IntKind.i64.wrap ((dg : Int) / (P : Int)) = (QG : Int)) := by
    have d1 := Nat.div_le_self dl P
    have d2 := Nat.div_le_self dg P
    refine ⟨?_, ?_⟩
    · rw [← Int.natCast_ediv, IntKind.wrap_i64, hQL]; generalize dl / P = z at *; omega
    · rw [← Int.natCast_ediv, IntKind.wrap_i64, hQG]; generalize dg / P = z at *; omega
  have HQ : Hid (quoR ⟨true, dl, dg⟩ ⟨true, 2 ^ sl, 2 ^ sl⟩ = fromR QL QG) := by show _ = _; rw [hQL, hQG, hP]; rfl
  have HNZ : Hid (¬ P = 0) := by show ¬ _; omega
  clear hQL hQG hP hPl h1 h2 h3 h4 hp
  obtain ⟨W0, hW0⟩ : ∃ W0, W0 = ((w.alloc (.cells #[.int .i64 dl, .int .i64 dg] 86)).alloc (.cells #[.int .i64 sl, .int .i64 sg] 86)).alloc (.cells #[.int .i64 0, .int .i64 0] 86) := ⟨_, rfl⟩
  have hd0 : Has W0 w.heap.size #[.int .i64 dl, .int .i64 dg] 86 := by rw [hW0]; exact has_old (has_old (has_new _ _ _ _ rfl))
  have hs0 : Has W0 (w.heap.size + 1) #[.int .i64 sl, .int .i64 sg] 86 := by rw [hW0]; exact has_old (has_new _ _ _ _ (by simp))
  have h60 : Has W0 (w.heap.size + 2) #[.int .i64 0, .int .i64 0] 86 := by rw [hW0]; exact has_new _ _ _ _ (by simp)
  have hB0 : Below w.heap.size w W0 := by rw [hW0]; exact (((Below.refl _ _).alloc (Nat.le_refl _) _).alloc (by simp) _).alloc (by simp; omega) _
  go_enter Tryd.func37, Tryd.ntmps37
  go_upto_region 27 with fail
  rw [← hW0]
  clear hW0
  refine wp_region_inv (Φ := fun l vs X => Vals (fun q => match q with | 0 => some (.pointer (some ⟨w.heap.size, 0, none⟩)) | 1 => some (.int .i64 (dl : Int)) | 2 => some (.pointer (some ⟨w.heap.size + 1, 0, none⟩)) | 3 => some (.int .i64 (sl : Int)) | 4 => some (.int .i64 (P : Int)) | 5 => some (.int .i64 (QL : Int)) | 6 => some (.pointer (some ⟨w.heap.size, 1, none⟩)) | 7 => some (.int .i64 (dg : Int)) | 8 => some (.pointer (some ⟨w.heap.size + 1, 0, none⟩)) | 9 => some (.int .i64 (sl : Int)) | 10 => some (.int .i64 (P : Int)) | 11 => some (.int .i64 (QG : Int)) | 12 => some (.agg #[.int .i64 (QL : Int), .int .i64 (QG : Int)]) | _ => none) l vs ∧ Pre1 13 (Below W0.heap.size W0) ((fun X => Has X (w.heap.size + 2) #[.int .i64 (QL : Int), .int .i64 (QG : Int)] 86 ∧ Below w.heap.size w X)) l X) (PQ := fun _ _ => False)
    (by kernel_rfl) (by kernel_rfl) (by kernel_rfl) (by kernel_rfl) ⟨Vals.none _ _, Pre1.start ((Below.refl _ _).drew)⟩ ?hop ?hend (fun _ _ _ _ h => h.elim)
  case hop =>
    refine ⟨?_, ?_, ?_, ?_, ?_, ?_, ?_, ?_, ?_, ?_, ?_, ?_, ?_, ?_, trivial⟩
    · intro l vs X A hA ⟨hV, hS⟩ hl hd hcl
      have hk := nY 13 hcl hl
      have hX := hS.1 hk
      have hB := hX
      have a4 := eO hA 4 rfl
      refine show_value (v := .pointer (some ⟨w.heap.size, 0, none⟩)) (X' := X) ?_ ⟨hV.upd (fun _ h => Option.some.inj h), Pre1.keep hk (by decide) (hX)⟩
      generalize A.eval = ρ at *
      clear hA hl hd hcl hV hS
      go_simp
    · intro l vs X A hA ⟨hV, hS⟩ hl hd hcl
      have hk := nY 13 hcl hl
      have hX := hS.1 hk
      have hB := hX
      have a103 := eN hA 103 0 hd hV rfl
      have cc : X.cell? ⟨w.heap.size, 0, none⟩ = some (.int .i64 (dl : Int)) := (hd0.below hB hd0.lt).cell 0
      refine show_value (v := .int .i64 (dl : Int)) (X' := X) ?_ ⟨hV.upd (fun _ h => Option.some.inj h), Pre1.keep hk (by decide) (hX)⟩
      generalize A.eval = ρ at *
      clear hA hl hd hcl hV hS hX hB
      go_simp
    · intro l vs X A hA ⟨hV, hS⟩ hl hd hcl
      have hk := nY 13 hcl hl
      have hX := hS.1 hk
      have hB := hX
      have a5 := eO hA 5 rfl
      refine show_value (v := .pointer (some ⟨w.heap.size + 1, 0, none⟩)) (X' := X) ?_ ⟨hV.upd (fun _ h => Option.some.inj h), Pre1.keep hk (by decide) (hX)⟩
      generalize A.eval = ρ at *
      clear hA hl hd hcl hV hS
      go_simp
    · intro l vs X A hA ⟨hV, hS⟩ hl hd hcl
      have hk := nY 13 hcl hl
      have hX := hS.1 hk
      have hB := hX
      have a105 := eN hA 105 2 hd hV rfl
      have cc : X.cell? ⟨w.heap.size + 1, 0, none⟩ = some (.int .i64 (sl : Int)) := (hs0.below hB hs0.lt).cell 0
      refine show_value (v := .int .i64 (sl : Int)) (X' := X) ?_ ⟨hV.upd (fun _ h => Option.some.inj h), Pre1.keep hk (by decide) (hX)⟩
      generalize A.eval = ρ at *
      clear hA hl hd hcl hV hS hX hB
      go_simp
    · intro l vs X A hA ⟨hV, hS⟩ hl hd hcl
      have hk := nY 13 hcl hl
      have hX := hS.1 hk
      have hB := hX
      have a106 := eN hA 106 3 hd hV rfl
      have aF0 : A.eval (.func 69) = .func (.func 69) #[] #[] := rfl
      refine show_call (f := 69) (args := #[.int .i64 (sl : Int)]) ?_ (hpw X) ?_
      · generalize A.eval = ρ at *
        clear hA hl hd hcl hV hS
        go_simp
      · rintro e X' ⟨rfl, rfl⟩
        exact .inl ⟨_, rfl, hV.upd (fun _ h => Option.some.inj h), Pre1.keep hk (by decide) (hX)⟩
    · intro l vs X A hA ⟨hV, hS⟩ hl hd hcl
      have hk := nY 13 hcl hl
      have hX := hS.1 hk
      have hB := hX
      have a104 := eN hA 104 1 hd hV rfl
      have a107 := eN hA 107 4 hd hV rfl
      have hq := HD.out.1
      have hn := HNZ.out
      refine show_value (v := .int .i64 (QL : Int)) (X' := X) ?_ ⟨hV.upd (fun _ h => Option.some.inj h), Pre1.keep hk (by decide) (hX)⟩
      generalize A.eval = ρ at *
      clear hA hl hd hcl hV hS hX hB
      go_simp
      all_goals (rw [if_neg hn, hq])
    · intro l vs X A hA ⟨hV, hS⟩ hl hd hcl
      have hk := nY 13 hcl hl
      have hX := hS.1 hk
      have hB := hX
      have a4 := eO hA 4 rfl
      refine show_value (v := .pointer (some ⟨w.heap.size, 1, none⟩)) (X' := X) ?_ ⟨hV.upd (fun _ h => Option.some.inj h), Pre1.keep hk (by decide) (hX)⟩
      generalize A.eval = ρ at *
      clear hA hl hd hcl hV hS
      go_simp
    · intro l vs X A hA ⟨hV, hS⟩ hl hd hcl
      have hk := nY 13 hcl hl
      have hX := hS.1 hk
      have hB := hX
      have a109 := eN hA 109 6 hd hV rfl
      have cc : X.cell? ⟨w.heap.size, 1, none⟩ = some (.int .i64 (dg : Int)) := (hd0.below hB hd0.lt).cell 1
      refine show_value (v := .int .i64 (dg : Int)) (X' := X) ?_ ⟨hV.upd (fun _ h => Option.some.inj h), Pre1.keep hk (by decide) (hX)⟩
      generalize A.eval = ρ at *
      clear hA hl hd hcl hV hS hX hB
      go_simp
    · intro l vs X A hA ⟨hV, hS⟩ hl hd hcl
      have hk := nY 13 hcl hl
      have hX := hS.1 hk
      have hB := hX
      have a5 := eO hA 5 rfl
      refine show_value (v := .pointer (some ⟨w.heap.size + 1, 0, none⟩)) (X' := X) ?_ ⟨hV.upd (fun _ h => Option.some.inj h), Pre1.keep hk (by decide) (hX)⟩
      generalize A.eval = ρ at *
      clear hA hl hd hcl hV hS
      go_simp
    · intro l vs X A hA ⟨hV, hS⟩ hl hd hcl
      have hk := nY 13 hcl hl
      have hX := hS.1 hk
      have hB := hX
      have a111 := eN hA 111 8 hd hV rfl
      have cc : X.cell? ⟨w.heap.size + 1, 0, none⟩ = some (.int .i64 (sl : Int)) := (hs0.below hB hs0.lt).cell 0
      refine show_value (v := .int .i64 (sl : Int)) (X' := X) ?_ ⟨hV.upd (fun _ h => Option.some.inj h), Pre1.keep hk (by decide) (hX)⟩
      generalize A.eval = ρ at *
      clear hA hl hd hcl hV hS hX hB
      go_simp
    · intro l vs X A hA ⟨hV, hS⟩ hl hd hcl
      have hk := nY 13 hcl hl
      have hX := hS.1 hk
      have hB := hX
      have a112 := eN hA 112 9 hd hV rfl
      have aF0 : A.eval (.func 69) = .func (.func 69) #[] #[] := rfl
      refine show_call (f := 69) (args := #[.int .i64 (sl : Int)]) ?_ (hpw X) ?_
      · generalize A.eval = ρ at *
        clear hA hl hd hcl hV hS
        go_simp
      · rintro e X' ⟨rfl, rfl⟩
        exact .inl ⟨_, rfl, hV.upd (fun _ h => Option.some.inj h), Pre1.keep hk (by decide) (hX)⟩
    · intro l vs X A hA ⟨hV, hS⟩ hl hd hcl
      have hk := nY 13 hcl hl
      have hX := hS.1 hk
      have hB := hX
      have a110 := eN hA 110 7 hd hV rfl
      have a113 := eN hA 113 10 hd hV rfl
      have hq := HD.out.2
      have hn := HNZ.out
      refine show_value (v := .int .i64 (QG : Int)) (X' := X) ?_ ⟨hV.upd (fun _ h => Option.some.inj h), Pre1.keep hk (by decide) (hX)⟩
      generalize A.eval = ρ at *
      clear hA hl hd hcl hV hS hX hB
      go_simp
      all_goals (rw [if_neg hn, hq])
    · intro l vs X A hA ⟨hV, hS⟩ hl hd hcl
      have hk := nY 13 hcl hl
      have hX := hS.1 hk
      have hB := hX
      have a108 := eN hA 108 5 hd hV rfl
      have a114 := eN hA 114 11 hd hV rfl
      refine show_value (v := .agg #[.int .i64 (QL : Int), .int .i64 (QG : Int)]) (X' := X) ?_ ⟨hV.upd (fun _ h => Option.some.inj h), Pre1.keep hk (by decide) (hX)⟩
      generalize A.eval = ρ at *
      clear hA hl hd hcl hV hS
      go_simp
    · intro l vs X A hA ⟨hV, hS⟩ hl hd hcl
      have hX := hS.1 hl
      have hB := hX
      have a6 := eO hA 6 rfl
      have a115 := eN hA 115 12 hd hV rfl
      have h6x := h60.below hX h60.lt
      exact show_skip (X' := X.setRow (w.heap.size + 2) #[.int .i64 (QL : Int), .int .i64 (QG : Int)]) (run_st_row 86 _ _ rfl (w.heap.size + 2) #[.int .i64 (QL : Int), .int .i64 (QG : Int)] #[.int .i64 0, .int .i64 0] 86 a6 a115 h6x (by kernel_rfl) (by kernel_rfl) (by kernel_rfl)) ⟨hV.upd (fun _ h => by cases h), Pre1.last ⟨setRow_has h6x _, setRow_below (hB0.trans (hX.mono hB0.size)) (by omega) _⟩⟩
  case hend =>
    intro l vs X hl ⟨hV, hS⟩
    have hX := hS.2 (hl 13 (by decide))
    have v0 := hV 0 _ (hl 0 (by decide)) rfl
    have v1 := hV 1 _ (hl 1 (by decide)) rfl
    have v2 := hV 2 _ (hl 2 (by decide)) rfl
    have v3 := hV 3 _ (hl 3 (by decide)) rfl
    have v4 := hV 4 _ (hl 4 (by decide)) rfl
    have v5 := hV 5 _ (hl 5 (by decide)) rfl
    have v6 := hV 6 _ (hl 6 (by decide)) rfl
    have v7 := hV 7 _ (hl 7 (by decide)) rfl
    have v8 := hV 8 _ (hl 8 (by decide)) rfl
    have v9 := hV 9 _ (hl 9 (by decide)) rfl
    have v10 := hV 10 _ (hl 10 (by decide)) rfl
    have v11 := hV 11 _ (hl 11 (by decide)) rfl
    have v12 := hV 12 _ (hl 12 (by decide)) rfl
    clear hV hS hl
    simp only [canonL, if_true, v0, v1, v2, v3, v4, v5, v6, v7, v8, v9, v10, v11, v12]
    clear v0 v1 v2 v3 v4 v5 v6 v7 v8 v9 v10 v11 v12
    go_simp
    obtain ⟨hrow, hBx⟩ := hX
    go_wp2_with fail
    exact bodyPost_ret (results_cell_row rfl _ _ (w.heap.size + 2) 86 _ (0, 0) _ rfl hrow Tryd.underlying86 rfl (by kernel_rfl)) rfl ⟨by rw [HQ.out]; rfl, hBx⟩
set_option maxRecDepth 10000 in
set_option maxHeartbeats 4000000 in
theorem rmake_14 (dl dg sl sg : Nat) (w : World) (hb : dl ≤ dg ∧ dg < 4294967296 ∧ sl ≤ sg ∧ sg < 4294967296) (hp : 1 ≤ sl) :
    Calls Tryd.prog 37 #[.int .i64 14, spV dl dg, spV sl sg] w fun e w' => e = .returned (spV ((quoR ⟨true, dl, dg⟩ ⟨true, sl, sg⟩).least : Int) ((quoR ⟨true, dl, dg⟩ ⟨true, sl, sg⟩).great : Int)) ∧ Below w.heap.size w w' := by
  obtain ⟨h1, h2, h3, h4⟩ := hb
  obtain ⟨QL, hQL⟩ : ∃ QL, QL = dl / sg := ⟨_, rfl⟩
  obtain ⟨QG, hQG⟩ : ∃ QG, QG = dg / sl := ⟨_, rfl⟩
  have HD : Hid (IntKind.i64.wrap ((dl : Int) / (sg : Int)) = (QL : Int) ∧ IntKind.i64.wrap ((dg : Int) / (sl : Int)) = (QG : Int)) := by
    have d1 := Nat.div_le_self dl sg
    have d2 := Nat.div_le_self dg sl
    refine ⟨?_, ?_⟩
    · rw [← Int.natCast_ediv, IntKind.wrap_i64, hQL]; generalize dl / sg = z at *; omega
    · rw [← Int.natCast_ediv, IntKind.wrap_i64, hQG]; generalize dg / sl = z at *; omega
  have HQ : Hid (quoR ⟨true, dl, dg⟩ ⟨true, sl, sg⟩ = fromR QL QG) := by show _ = _; rw [hQL, hQG]; rfl
  have HNZ : Hid (¬ sg = 0 ∧ ¬ sl = 0) := by show _ ∧ _; omega
  clear hQL hQG h1 h2 h3 h4 hp
  obtain ⟨W0, hW0⟩ : ∃ W0, W0 = ((w.alloc (.cells #[.int .i64 dl, .int .i64 dg] 86)).alloc (.cells #[.int .i64 sl, .int .i64 sg] 86)).alloc (.cells #[.int .i64 0, .int .i64 0] 86) := ⟨_, rfl⟩
  have hd0 : Has W0 w.heap.size #[.int .i64 dl, .int .i64 dg] 86 := by rw [hW0]; exact has_old (has_old (has_new _ _ _ _ rfl))
  have hs0 : Has W0 (w.heap.size + 1) #[.int .i64 sl, .int .i64 sg] 86 := by rw [hW0]; exact has_old (has_new _ _ _ _ (by simp))
  have h60 : Has W0 (w.heap.size + 2) #[.int .i64 0, .int .i64 0] 86 := by rw [hW0]; exact has_new _ _ _ _ (by simp)
  have hB0 : Below w.heap.size w W0 := by rw [hW0]; exact (((Below.refl _ _).alloc (Nat.le_refl _) _).alloc (by simp) _).alloc (by simp; omega) _
  go_enter Tryd.func37, Tryd.ntmps37
  go_upto_region 29 with fail
  rw [← hW0]
  clear hW0
  refine wp_region_inv (Φ := fun l vs X => Vals (fun q => match q with | 0 => some (.pointer (some ⟨w.heap.size, 0, none⟩)) | 1 => some (.int .i64 (dl : Int)) | 2 => some (.pointer (some ⟨w.heap.size + 1, 1, none⟩)) | 3 => some (.int .i64 (sg : Int)) | 4 => some (.int .i64 (QL : Int)) | 5 => some (.pointer (some ⟨w.heap.size, 1, none⟩)) | 6 => some (.int .i64 (dg : Int)) | 7 => some (.pointer (some ⟨w.heap.size + 1, 0, none⟩)) | 8 => some (.int .i64 (sl : Int)) | 9 => some (.int .i64 (QG : Int)) | 10 => some (.agg #[.int .i64 (QL : Int), .int .i64 (QG : Int)]) | _ => none) l vs ∧ Pre1 11 (Below W0.heap.size W0) ((fun X => Has X (w.heap.size + 2) #[.int .i64 (QL : Int), .int .i64 (QG : Int)] 86 ∧ Below w.heap.size w X)) l X) (PQ := fun _ _ => False)
    (by kernel_rfl) (by kernel_rfl) (by kernel_rfl) (by kernel_rfl) ⟨Vals.none _ _, Pre1.start ((Below.refl _ _).drew)⟩ ?hop ?hend (fun _ _ _ _ h => h.elim)
  case hop =>
    refine ⟨?_, ?_, ?_, ?_, ?_, ?_, ?_, ?_, ?_, ?_, ?_, ?_, trivial⟩
    · intro l vs X A hA ⟨hV, hS⟩ hl hd hcl
      have hk := nY 11 hcl hl
      have hX := hS.1 hk
      have hB := hX
      have a4 := eO hA 4 rfl
      refine show_value (v := .pointer (some ⟨w.heap.size, 0, none⟩)) (X' := X) ?_ ⟨hV.upd (fun _ h => Option.some.inj h), Pre1.keep hk (by decide) (hX)⟩
      generalize A.eval = ρ at *
      clear hA hl hd hcl hV hS
      go_simp
    · intro l vs X A hA ⟨hV, hS⟩ hl hd hcl
      have hk := nY 11 hcl hl
      have hX := hS.1 hk
      have hB := hX
      have a118 := eN hA 118 0 hd hV rfl
      have cc : X.cell? ⟨w.heap.size, 0, none⟩ = some (.int .i64 (dl : Int)) := (hd0.below hB hd0.lt).cell 0
      refine show_value (v := .int .i64 (dl : Int)) (X' := X) ?_ ⟨hV.upd (fun _ h => Option.some.inj h), Pre1.keep hk (by decide) (hX)⟩
      generalize A.eval = ρ at *
      clear hA hl hd hcl hV hS hX hB
      go_simp
    · intro l vs X A hA ⟨hV, hS⟩ hl hd hcl
      have hk := nY 11 hcl hl
      have hX := hS.1 hk
      have hB := hX
      have a5 := eO hA 5 rfl
      refine show_value (v := .pointer (some ⟨w.heap.size + 1, 1, none⟩)) (X' := X) ?_ ⟨hV.upd (fun _ h => Option.some.inj h), Pre1.keep hk (by decide) (hX)⟩
      generalize A.eval = ρ at *
      clear hA hl hd hcl hV hS
      go_simp
    · intro l vs X A hA ⟨hV, hS⟩ hl hd hcl
      have hk := nY 11 hcl hl
      have hX := hS.1 hk
      have hB := hX
      have a120 := eN hA 120 2 hd hV rfl
      have cc : X.cell? ⟨w.heap.size + 1, 1, none⟩ = some (.int .i64 (sg : Int)) := (hs0.below hB hs0.lt).cell 1
      refine show_value (v := .int .i64 (sg : Int)) (X' := X) ?_ ⟨hV.upd (fun _ h => Option.some.inj h), Pre1.keep hk (by decide) (hX)⟩
      generalize A.eval = ρ at *
      clear hA hl hd hcl hV hS hX hB
      go_simp
    · intro l vs X A hA ⟨hV, hS⟩ hl hd hcl
      have hk := nY 11 hcl hl
      have hX := hS.1 hk
      have hB := hX
      have a119 := eN hA 119 1 hd hV rfl
      have a121 := eN hA 121 3 hd hV rfl
      have hq := HD.out.1
      have hn := HNZ.out.1
      refine show_value (v := .int .i64 (QL : Int)) (X' := X) ?_ ⟨hV.upd (fun _ h => Option.some.inj h), Pre1.keep hk (by decide) (hX)⟩
      generalize A.eval = ρ at *
      clear hA hl hd hcl hV hS hX hB
      go_simp
      all_goals (rw [if_neg hn, hq])
    · intro l vs X A hA ⟨hV, hS⟩ hl hd hcl
      have hk := nY 11 hcl hl
      have hX := hS.1 hk
      have hB := hX
      have a4 := eO hA 4 rfl
      refine show_value (v := .pointer (some ⟨w.heap.size, 1, none⟩)) (X' := X) ?_ ⟨hV.upd (fun _ h => Option.some.inj h), Pre1.keep hk (by decide) (hX)⟩
      generalize A.eval = ρ at *
      clear hA hl hd hcl hV hS
      go_simp
    · intro l vs X A hA ⟨hV, hS⟩ hl hd hcl
      have hk := nY 11 hcl hl
      have hX := hS.1 hk
      have hB := hX
      have a123 := eN hA 123 5 hd hV rfl
      have cc : X.cell? ⟨w.heap.size, 1, none⟩ = some (.int .i64 (dg : Int)) := (hd0.below hB hd0.lt).cell 1
      refine show_value (v := .int .i64 (dg : Int)) (X' := X) ?_ ⟨hV.upd (fun _ h => Option.some.inj h), Pre1.keep hk (by decide) (hX)⟩
      generalize A.eval = ρ at *
      clear hA hl hd hcl hV hS hX hB
      go_simp
    · intro l vs X A hA ⟨hV, hS⟩ hl hd hcl
      have hk := nY 11 hcl hl
      have hX := hS.1 hk
      have hB := hX
      have a5 := eO hA 5 rfl
      refine show_value (v := .pointer (some ⟨w.heap.size + 1, 0, none⟩)) (X' := X) ?_ ⟨hV.upd (fun _ h => Option.some.inj h), Pre1.keep hk (by decide) (hX)⟩
      generalize A.eval = ρ at *
      clear hA hl hd hcl hV hS
      go_simp
    · intro l vs X A hA ⟨hV, hS⟩ hl hd hcl
      have hk := nY 11 hcl hl
      have hX := hS.1 hk
      have hB := hX
      have a125 := eN hA 125 7 hd hV rfl
      have cc : X.cell? ⟨w.heap.size + 1, 0, none⟩ = some (.int .i64 (sl : Int)) := (hs0.below hB hs0.lt).cell 0
      refine show_value (v := .int .i64 (sl : Int)) (X' := X) ?_ ⟨hV.upd (fun _ h => Option.some.inj h), Pre1.keep hk (by decide) (hX)⟩
      generalize A.eval = ρ at *
      clear hA hl hd hcl hV hS hX hB
      go_simp
    · intro l vs X A hA ⟨hV, hS⟩ hl hd hcl
      have hk := nY 11 hcl hl
      have hX := hS.1 hk
      have hB := hX
      have a124 := eN hA 124 6 hd hV rfl
      have a126 := eN hA 126 8 hd hV rfl
      have hq := HD.out.2
      have hn := HNZ.out.2
      refine show_value (v := .int .i64 (QG : Int)) (X' := X) ?_ ⟨hV.upd (fun _ h => Option.some.inj h), Pre1.keep hk (by decide) (hX)⟩
      generalize A.eval = ρ at *
      clear hA hl hd hcl hV hS hX hB
      go_simp
      all_goals (rw [if_neg hn, hq])
    · intro l vs X A hA ⟨hV, hS⟩ hl hd hcl
      have hk := nY 11 hcl hl
      have hX := hS.1 hk
      have hB := hX
      have a122 := eN hA 122 4 hd hV rfl
      have a127 := eN hA 127 9 hd hV rfl
      refine show_value (v := .agg #[.int .i64 (QL : Int), .int .i64 (QG : Int)]) (X' := X) ?_ ⟨hV.upd (fun _ h => Option.some.inj h), Pre1.keep hk (by decide) (hX)⟩
      generalize A.eval = ρ at *
      clear hA hl hd hcl hV hS
      go_simp
    · intro l vs X A hA ⟨hV, hS⟩ hl hd hcl
      have hX := hS.1 hl
      have hB := hX
      have a6 := eO hA 6 rfl
      have a128 := eN hA 128 10 hd hV rfl
      have h6x := h60.below hX h60.lt
      exact show_skip (X' := X.setRow (w.heap.size + 2) #[.int .i64 (QL : Int), .int .i64 (QG : Int)]) (run_st_row 86 _ _ rfl (w.heap.size + 2) #[.int .i64 (QL : Int), .int .i64 (QG : Int)] #[.int .i64 0, .int .i64 0] 86 a6 a128 h6x (by kernel_rfl) (by kernel_rfl) (by kernel_rfl)) ⟨hV.upd (fun _ h => by cases h), Pre1.last ⟨setRow_has h6x _, setRow_below (hB0.trans (hX.mono hB0.size)) (by omega) _⟩⟩
  case hend =>
    intro l vs X hl ⟨hV, hS⟩
    have hX := hS.2 (hl 11 (by decide))
    have v0 := hV 0 _ (hl 0 (by decide)) rfl
    have v1 := hV 1 _ (hl 1 (by decide)) rfl
    have v2 := hV 2 _ (hl 2 (by decide)) rfl
    have v3 := hV 3 _ (hl 3 (by decide)) rfl
    have v4 := hV 4 _ (hl 4 (by decide)) rfl
    have v5 := hV 5 _ (hl 5 (by decide)) rfl
    have v6 := hV 6 _ (hl 6 (by decide)) rfl
    have v7 := hV 7 _ (hl 7 (by decide)) rfl
    have v8 := hV 8 _ (hl 8 (by decide)) rfl
    have v9 := hV 9 _ (hl 9 (by decide)) rfl
    have v10 := hV 10 _ (hl 10 (by decide)) rfl
    clear hV hS hl
    simp only [canonL, if_true, v0, v1, v2, v3, v4, v5, v6, v7, v8, v9, v10]
    clear v0 v1 v2 v3 v4 v5 v6 v7 v8 v9 v10
    go_simp
    obtain ⟨hrow, hBx⟩ := hX
    go_wp2_with fail
    exact bodyPost_ret (results_cell_row rfl _ _ (w.heap.size + 2) 86 _ (0, 0) _ rfl hrow Tryd.underlying86 rfl (by kernel_rfl)) rfl ⟨by rw [HQ.out]; rfl, hBx⟩
set_option maxRecDepth 10000 in
set_option maxHeartbeats 4000000 in
theorem rmake_11 (dl dg sl sg : Nat) (w : World) (hb : dl ≤ dg ∧ dg < 4294967296 ∧ sl ≤ sg ∧ sg < 4294967296) :
    Calls Tryd.prog 37 #[.int .i64 11, spV dl dg, spV sl sg] w fun e w' => e = .returned (spV ((apaR ⟨true, dl, dg⟩ ⟨true, sl, sg⟩).least : Int) ((apaR ⟨true, dl, dg⟩ ⟨true, sl, sg⟩).great : Int)) ∧ Below w.heap.size w w' := by
  obtain ⟨h1, h2, h3, h4⟩ := hb
  obtain ⟨mg, hmg⟩ : ∃ mg, mg = max dg sg := ⟨_, rfl⟩
  have HML : Hid (mg = max dg sg) := hmg
  have hro := fun W => rones_any mg (by omega) W
  have HQ : Hid (apaR ⟨true, dl, dg⟩ ⟨true, sl, sg⟩ = fromR 0 (onesN mg)) := by show _ = _; rw [hmg]; rfl
  generalize onesN mg = og at *
  clear hmg h1 h2 h3 h4
  obtain ⟨W0, hW0⟩ : ∃ W0, W0 = ((w.alloc (.cells #[.int .i64 dl, .int .i64 dg] 86)).alloc (.cells #[.int .i64 sl, .int .i64 sg] 86)).alloc (.cells #[.int .i64 0, .int .i64 0] 86) := ⟨_, rfl⟩
  have hd0 : Has W0 w.heap.size #[.int .i64 dl, .int .i64 dg] 86 := by rw [hW0]; exact has_old (has_old (has_new _ _ _ _ rfl))
  have hs0 : Has W0 (w.heap.size + 1) #[.int .i64 sl, .int .i64 sg] 86 := by rw [hW0]; exact has_old (has_new _ _ _ _ (by simp))
  have h60 : Has W0 (w.heap.size + 2) #[.int .i64 0, .int .i64 0] 86 := by rw [hW0]; exact has_new _ _ _ _ (by simp)
  have hB0 : Below w.heap.size w W0 := by rw [hW0]; exact (((Below.refl _ _).alloc (Nat.le_refl _) _).alloc (by simp) _).alloc (by simp; omega) _
  go_enter Tryd.func37, Tryd.ntmps37
  go_upto_region 23 with fail
  rw [← hW0]
  clear hW0
  refine wp_region_lit ?_
  refine wpList_valG (w' := W0) (v := .pointer (some ⟨w.heap.size, 1, none⟩)) rfl (by kernel_rfl) ?_
  refine wpList_ldG rfl 2 _ rfl ⟨w.heap.size, 1, none⟩ (by kernel_rfl) (.int .i64 (dg : Int)) (by have c : W0.cell? ⟨w.heap.size, 1, none⟩ = some (.int .i64 (dg : Int)) := hd0.cell 1; simp [go_sem, c]) ?_
  refine wpList_valG (w' := W0) (v := .pointer (some ⟨w.heap.size + 1, 1, none⟩)) rfl (by kernel_rfl) ?_
  refine wpList_ldG rfl 2 _ rfl ⟨w.heap.size + 1, 1, none⟩ (by kernel_rfl) (.int .i64 (sg : Int)) (by have c : W0.cell? ⟨w.heap.size + 1, 1, none⟩ = some (.int .i64 (sg : Int)) := hs0.cell 1; simp [go_sem, c]) ?_
  go_simp
  refine wpList_valG (w' := W0) (v := .int .i64 (mg : Int)) rfl (by have hm := HML.out; clear hd0 hs0 h60 hB0; go_simp; split <;> omega) ?_
  refine wpList_callG (f := 68) (args := #[.int .i64 (mg : Int)]) rfl (by kernel_rfl) (hro W0) ?_
  rintro e W1 ⟨rfl, rfl⟩
  refine ⟨_, rfl, ?_⟩
  go_simp
  refine wpList_valG (w' := W0) (v := .agg #[.int .i64 0, .int .i64 (og : Int)]) rfl (by kernel_rfl) ?_
  refine wpList_store_row rfl 86 _ _ rfl (w.heap.size + 2) #[.int .i64 0, .int .i64 (og : Int)] (by kernel_rfl) (by kernel_rfl) 86 #[.int .i64 0, .int .i64 0] h60 (by kernel_rfl) (by kernel_rfl) (by kernel_rfl) ?_
  have hrow : Has (W0.setRow (w.heap.size + 2) #[.int .i64 0, .int .i64 (og : Int)]) (w.heap.size + 2) #[.int .i64 0, .int .i64 (og : Int)] 86 := setRow_has h60 _
  have hBx : Below w.heap.size w (W0.setRow (w.heap.size + 2) #[.int .i64 0, .int .i64 (og : Int)]) := setRow_below hB0 (by omega) _
  generalize W0.setRow (w.heap.size + 2) #[.int .i64 0, .int .i64 (og : Int)] = W2 at *
  clear h60 hd0 hs0 hro
  go_simp
  go_wp2_with fail
  exact bodyPost_ret (results_cell_row rfl _ _ (w.heap.size + 2) 86 _ (0, 0) _ rfl hrow Tryd.underlying86 rfl (by kernel_rfl)) rfl ⟨by rw [HQ.out]; rfl, hBx⟩
end Go.Proofs.YtodkehpldlmgaaaDoor
