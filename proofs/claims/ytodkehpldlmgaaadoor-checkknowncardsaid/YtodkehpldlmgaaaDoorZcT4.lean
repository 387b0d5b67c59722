/- The document's Join is the program's. -/
import Derived.Test.YtodkehpldlmgaaaDoorZcT3
namespace Go.Proofs.YtodkehpldlmgaaaDoor
open Go.RowKit

def joinO (a b : Kn) (j : Nat) : Kn := ⟨true, fun m => if m < j then spanR (a.r m) (b.r m) else noR⟩
theorem joinO_zero (a b : Kn) : (joinO a b 0).a = comeK.a := rfl
theorem joinO_at (a b : Kn) (n : Nat) : (joinO a b n).r n = noR := by
  show (if n < n then _ else _) = _
  rw [if_neg (by omega)]
theorem joinO_set (a b : Kn) (n : Nat) : (joinO a b n).set n (spanR (a.r n) (b.r n)) = joinO a b (n + 1) := by
  show (⟨true, fun m => if m = n then _ else _⟩ : Kn) = ⟨true, _⟩
  congr 1
  funext m
  by_cases e : m = n
  · subst e; rw [if_pos rfl, if_pos (by omega)]
  · rw [if_neg e]
    show (if m < n then _ else _) = _
    by_cases h1 : m < n
    · rw [if_pos h1, if_pos (by omega)]
    · rw [if_neg h1, if_neg (by omega)]
theorem joinO_skip (a b : Kn) (n : Nat) (h : spanR (a.r n) (b.r n) = noR) : joinO a b (n + 1) = joinO a b n := by
  show (⟨true, _⟩ : Kn) = ⟨true, _⟩
  congr 1
  funext m
  by_cases e : m = n
  · subst e; rw [if_pos (by omega), if_neg (by omega), h]
  · by_cases h1 : m < n
    · rw [if_pos h1, if_pos (by omega)]
    · rw [if_neg h1, if_neg (by omega)]
theorem kn_a_eq {a b : Kn} (h : a.come = b.come) (hr : ∀ n, n < 10 → a.r n = b.r n) : a.a = b.a := by
  unfold Kn.a Kn.cells
  rw [h]
  congr 2
  have : ∀ l : List Nat, (∀ n, n ∈ l → n < 10) → l.flatMap (fun n => (a.r n).cells) = l.flatMap (fun n => (b.r n).cells) := fun l hl => by
    induction l with
    | nil => rfl
    | cons x l ih => rw [List.flatMap_cons, List.flatMap_cons, hr x (hl x (by simp)), ih (fun n hn => hl n (by simp [hn]))]
  exact this _ (fun n hn => by simpa using hn)
/-- The world of two things known; and what is joined so far. -/
structure OB (w : World) (a b : Kn) (K : Kn) (X : World) : Prop where
  a : Has X w.heap.size a.a 43
  b : Has X (w.heap.size + 1) b.a 43
  o : Has X (w.heap.size + 2) noK.a 43
  k : Has X (w.heap.size + 3) K.a 43
  below : Below w.heap.size w X
theorem OB.grow {w : World} {a b K : Kn} {X X' : World} (h : OB w a b K X) (g : Below X.heap.size X X') : OB w a b K X' :=
  ⟨h.a.below g h.a.lt, h.b.below g h.b.lt, h.o.below g h.o.lt, h.k.below g h.k.lt, h.below.trans (g.mono h.below.size)⟩
theorem OB.set {w : World} {a b K : Kn} {X : World} (h : OB w a b K X) (n : Nat) (hn : n < 10) (r : Rg) : OB w a b (K.set n r) (X.setCells (w.heap.size + 3) (1 + n * 3) r.cells) := by
  obtain ⟨g1, g2⟩ := setReg h.k n hn r
  exact ⟨h.a.ex g2 (by omega), h.b.ex g2 (by omega), h.o.ex g2 (by omega), g1, Below.ex h.below h.below.size g2 (by omega)⟩
theorem bothB2 {B ty : Nat} {x y : Array Value} {W : World} {u v : Value} {X : World} (h : Both B ty x y W u v X) : Below B W X := by
  obtain ⟨b6, b7, u6, u7, g6, g7, hne, hb6, hb7, hB9⟩ := h
  exact hB9
theorem run_min36 {o : Oper} {ρ : Operand → Value} {X : World} (x y : Operand) (ho : o.op = .call { callee := .builtin .min, args := #[x, y], argTypes := #[36, 36] }) (a b : Nat) (hx : ρ x = .int .u32 (a : Int)) (hy : ρ y = .int .u32 (b : Int)) : (execOp ρ o).run Tryd.prog X = .ok (.value (.int .u32 ((min a b : Nat) : Int))) X := by
  by_cases h : (b : Int) < (a : Int)
  · have e : min a b = b := Nat.min_eq_right (by omega)
    unfold execOp
    simp only [ho, e]
    go_simp
  · have e : min a b = a := Nat.min_eq_left (by omega)
    unfold execOp
    simp only [ho, e]
    go_simp
theorem run_max36 {o : Oper} {ρ : Operand → Value} {X : World} (x y : Operand) (ho : o.op = .call { callee := .builtin .max, args := #[x, y], argTypes := #[36, 36] }) (a b : Nat) (hx : ρ x = .int .u32 (a : Int)) (hy : ρ y = .int .u32 (b : Int)) : (execOp ρ o).run Tryd.prog X = .ok (.value (.int .u32 ((max a b : Nat) : Int))) X := by
  by_cases h : (a : Int) < (b : Int)
  · have e : max a b = b := Nat.max_eq_right (by omega)
    unfold execOp
    simp only [ho, e]
    go_simp
  · have e : max a b = a := Nat.max_eq_left (by omega)
    unfold execOp
    simp only [ho, e]
    go_simp
theorem reg_cells {X : World} {c t : Nat} {r : Rg} (h : Has X c r.a t) {s : Bool} {l g : Nat} (e : r = ⟨s, l, g⟩) : X.cell? ⟨c, 0, none⟩ = some (.bool s) ∧ X.cell? ⟨c, 1, none⟩ = some (.int .u32 (l : Int)) ∧ X.cell? ⟨c, 2, none⟩ = some (.int .u32 (g : Int)) := by
  subst e
  exact ⟨h.cell 0, h.cell 1, h.cell 2⟩
set_option maxRecDepth 10000 in
set_option maxHeartbeats 4000000 in
theorem rjoin_a (a b : Kn) (w : World) (h1 : a.come = false) :
    Calls Tryd.prog 30 #[.agg a.a, .agg b.a] w fun e w' => e = .returned (.agg (b).a) ∧ Below w.heap.size w w' := by
  obtain ⟨W0, hW0⟩ : ∃ W0, W0 = ((w.alloc (.cells a.a 43)).alloc (.cells b.a 43)).alloc (.cells noK.a 43) := ⟨_, rfl⟩
  have ha0 : Has W0 w.heap.size a.a 43 := by rw [hW0]; exact has_old (has_old (has_new _ _ _ _ rfl))
  have hb0 : Has W0 (w.heap.size + 1) b.a 43 := by rw [hW0]; exact has_old (has_new _ _ _ _ (by simp))
  have hr0 : Has W0 (w.heap.size + 2) noK.a 43 := by rw [hW0]; exact has_new _ _ _ _ (by simp)
  have hB0 : Below w.heap.size w W0 := by rw [hW0]; exact (((Below.refl _ _).alloc (Nat.le_refl _) _).alloc (by simp) _).alloc (by simp; omega) _
  have hs0 : W0.heap.size = w.heap.size + 3 := by rw [hW0]; simp
  have c0 : W0.cell? ⟨w.heap.size, 0, none⟩ = some (.bool a.come) := ha0.cell 0
  have c1 : W0.cell? ⟨w.heap.size + 1, 0, none⟩ = some (.bool b.come) := hb0.cell 0
  go_enter Tryd.func30, Tryd.ntmps30
  go_upto_region 1 with fail
  refine named2 (p := fun X => Code.wp _ _ _ _ X) ?_
  intro W9 hW9
  have hW : W0 = W9 := hW0.trans (Eq.trans (by kernel_rfl) hW9.symm)
  subst hW
  clear hW9 hW0
  clear hs0
  rw [h1] at c0
  go_upto_region 2 with fail
  first | refine wp_region_lit ?_ | skip
  refine ldA (ld43 hb0) ?_
  refine stW 43 (b).a hr0 (Kn.a_one _) ?_
  have hrow := setRow_has hr0 (b).a
  have hBx : Below w.heap.size w (W0.setRow (w.heap.size + 2) (b).a) := setRow_below hB0 (by omega) _
  clear hB0 hb0 hr0 ha0 c0 c1
  generalize W0.setRow (w.heap.size + 2) (b).a = W99 at *
  go_simp
  go_wp2_with fail
  exact bodyPost_ret (results_cell_row rfl _ _ (w.heap.size + 2) 43 _ (0, 0) _ rfl hrow Tryd.underlying43 rfl (by kernel_rfl)) rfl ⟨rfl, hBx⟩
set_option maxRecDepth 10000 in
set_option maxHeartbeats 4000000 in
theorem rjoin_b (a b : Kn) (w : World) (h1 : a.come = true) (h2 : b.come = false) :
    Calls Tryd.prog 30 #[.agg a.a, .agg b.a] w fun e w' => e = .returned (.agg (a).a) ∧ Below w.heap.size w w' := by
  obtain ⟨W0, hW0⟩ : ∃ W0, W0 = ((w.alloc (.cells a.a 43)).alloc (.cells b.a 43)).alloc (.cells noK.a 43) := ⟨_, rfl⟩
  have ha0 : Has W0 w.heap.size a.a 43 := by rw [hW0]; exact has_old (has_old (has_new _ _ _ _ rfl))
  have hb0 : Has W0 (w.heap.size + 1) b.a 43 := by rw [hW0]; exact has_old (has_new _ _ _ _ (by simp))
  have hr0 : Has W0 (w.heap.size + 2) noK.a 43 := by rw [hW0]; exact has_new _ _ _ _ (by simp)
  have hB0 : Below w.heap.size w W0 := by rw [hW0]; exact (((Below.refl _ _).alloc (Nat.le_refl _) _).alloc (by simp) _).alloc (by simp; omega) _
  have hs0 : W0.heap.size = w.heap.size + 3 := by rw [hW0]; simp
  have c0 : W0.cell? ⟨w.heap.size, 0, none⟩ = some (.bool a.come) := ha0.cell 0
  have c1 : W0.cell? ⟨w.heap.size + 1, 0, none⟩ = some (.bool b.come) := hb0.cell 0
  go_enter Tryd.func30, Tryd.ntmps30
  go_upto_region 1 with fail
  refine named2 (p := fun X => Code.wp _ _ _ _ X) ?_
  intro W9 hW9
  have hW : W0 = W9 := hW0.trans (Eq.trans (by kernel_rfl) hW9.symm)
  subst hW
  clear hW9 hW0
  clear hs0
  rw [h1] at c0
  rw [h2] at c1
  go_upto_region 4 with fail
  first | refine wp_region_lit ?_ | skip
  refine ldA (ld43 ha0) ?_
  refine stW 43 (a).a hr0 (Kn.a_one _) ?_
  have hrow := setRow_has hr0 (a).a
  have hBx : Below w.heap.size w (W0.setRow (w.heap.size + 2) (a).a) := setRow_below hB0 (by omega) _
  clear hB0 hb0 hr0 ha0 c0 c1
  generalize W0.setRow (w.heap.size + 2) (a).a = W99 at *
  go_simp
  go_wp2_with fail
  exact bodyPost_ret (results_cell_row rfl _ _ (w.heap.size + 2) 43 _ (0, 0) _ rfl hrow Tryd.underlying43 rfl (by kernel_rfl)) rfl ⟨rfl, hBx⟩
set_option maxRecDepth 10000 in
set_option maxHeartbeats 4000000 in
theorem rjoin_c (a b : Kn) (w : World) (h1 : a.come = true) (h2 : b.come = true) :
    Calls Tryd.prog 30 #[.agg a.a, .agg b.a] w fun e w' => e = .returned (.agg (joinO a b 10).a) ∧ Below w.heap.size w w' := by
  obtain ⟨W0, hW0⟩ : ∃ W0, W0 = ((w.alloc (.cells a.a 43)).alloc (.cells b.a 43)).alloc (.cells noK.a 43) := ⟨_, rfl⟩
  have ha0 : Has W0 w.heap.size a.a 43 := by rw [hW0]; exact has_old (has_old (has_new _ _ _ _ rfl))
  have hb0 : Has W0 (w.heap.size + 1) b.a 43 := by rw [hW0]; exact has_old (has_new _ _ _ _ (by simp))
  have hr0 : Has W0 (w.heap.size + 2) noK.a 43 := by rw [hW0]; exact has_new _ _ _ _ (by simp)
  have hB0 : Below w.heap.size w W0 := by rw [hW0]; exact (((Below.refl _ _).alloc (Nat.le_refl _) _).alloc (by simp) _).alloc (by simp; omega) _
  have hs0 : W0.heap.size = w.heap.size + 3 := by rw [hW0]; simp
  have c0 : W0.cell? ⟨w.heap.size, 0, none⟩ = some (.bool a.come) := ha0.cell 0
  have c1 : W0.cell? ⟨w.heap.size + 1, 0, none⟩ = some (.bool b.come) := hb0.cell 0
  go_enter Tryd.func30, Tryd.ntmps30
  go_upto_region 1 with fail
  refine named2 (p := fun X => Code.wp _ _ _ _ X) ?_
  intro W9 hW9
  have hW : W0 = W9 := hW0.trans (Eq.trans (by kernel_rfl) hW9.symm)
  subst hW
  clear hW9 hW0
  rw [h1] at c0
  rw [h2] at c1
  go_upto_region 5 with fail
  first | refine wp_region_lit ?_ | skip
  refine valA (.agg comeK.a) ?_
  refine alA 43 noK.a ?_
  have ax : Has (W0.alloc (.cells noK.a 43)) W0.heap.size noK.a 43 := has_new _ _ _ _ rfl
  refine stW 43 comeK.a ax (Kn.a_one _) ?_
  have hO : OB w a b comeK ((W0.alloc (.cells noK.a 43)).setRow W0.heap.size comeK.a) := by
    have e := setRow_ex (W0.alloc (.cells noK.a 43)) W0.heap.size comeK.a
    have h5 := setRow_has ax comeK.a
    rw [hs0] at e h5
    have n0 : w.heap.size ≠ w.heap.size + 3 := by omega
    have n1 : w.heap.size + 1 ≠ w.heap.size + 3 := by omega
    have n2 : w.heap.size + 2 ≠ w.heap.size + 3 := by omega
    rw [hs0]
    exact ⟨(has_old ha0).ex e n0, (has_old hb0).ex e n1, (has_old hr0).ex e n2, h5, Below.ex (hB0.alloc hB0.size _) (by simp; omega) e (by omega)⟩
  clear ax ha0 hb0 hr0 hB0 c0 c1
  generalize (W0.alloc (.cells noK.a 43)).setRow W0.heap.size comeK.a = W1 at *
  rw [hs0]
  clear hs0
  go_simp
  go_wp2_with fail
  go_loopw [6] (fun v wr => ∃ n : Nat, n ≤ 10 ∧ v = .int .i64 (n : Int) ∧ OB w a b (joinO a b n) wr) (fun v _ => 10 - (intOf v).toNat)
  case atStart => exact ⟨0, by omega, rfl, hO⟩
  case round =>
    obtain ⟨n, hn, rfl, hr⟩ := hrel
    clear hO
    by_cases hlt : n < 10
    · have hlt' : (n : Int) < 10 := by omega
      have HL : Hid (n < 10) := hlt
      have HJ : Hid (OB w a b (joinO a b n) wr) := hr
      obtain ⟨xs, xl, xg, hx⟩ : ∃ s l g, a.r n = ⟨s, l, g⟩ := ⟨_, _, _, rfl⟩
      obtain ⟨ys, yl, yg, hy⟩ : ∃ s l g, b.r n = ⟨s, l, g⟩ := ⟨_, _, _, rfl⟩
      clear hlt hn hr
      go_upto_region 9 with fail
      refine wp_region_inv (Φ := fun l vs X => Vals (fun q => match q with | 0 => some (.int .i64 (n : Int)) | 1 => some (.pointer (some ⟨w.heap.size, 1, none⟩)) | 2 => some (.pointer (some ⟨w.heap.size, 1 + n * 3, none⟩)) | 3 => some (.agg (a.r n).a) | 4 => some (.int .i64 (n : Int)) | 5 => some (.pointer (some ⟨w.heap.size + 1, 1, none⟩)) | 6 => some (.pointer (some ⟨w.heap.size + 1, 1 + n * 3, none⟩)) | 7 => some (.agg (b.r n).a) | _ => none) l vs ∧ Ph2 10 11 (Two wr.heap.size 40 noR.a wr 8 9) (fun vs X => Both wr.heap.size 40 (a.r n).a noR.a wr (vs 8) (vs 9) X) (fun vs X => Both wr.heap.size 40 (a.r n).a (b.r n).a wr (vs 8) (vs 9) X) l vs X) (PQ := fun _ _ => False)
        (by kernel_rfl) (by kernel_rfl) (by kernel_rfl) (by kernel_rfl) ⟨Vals.none _ _, Ph2.start (Two.start ((Below.refl _ _).drew) (Nat.le_refl _))⟩ ?hop ?hend (fun _ _ _ _ h => h.elim)
      case hop =>
        refine ⟨?_, ?_, ?_, ?_, ?_, ?_, ?_, ?_, ?_, ?_, ?_, ?_, trivial⟩
        · intro l vs X A hA ⟨hV, hS⟩ hl hd hcl
          have hj := nY 10 hcl hl
          have hk := nY 11 hcl hl
          have hX := hS.1 hj
          have hB := hX.below
          have a6 := eO hA 6 rfl
          refine show_value (v := .int .i64 (n : Int)) (X' := X) ?_ ⟨hV.upd (fun _ h => Option.some.inj h), Ph2.keep hj hk (by decide) (by decide) (hX.grow (Below.refl _ _) (by decide) (by decide) _)⟩
          generalize A.eval = ρ at *
          clear hA hl hd hcl hV hS
          go_simp
        · intro l vs X A hA ⟨hV, hS⟩ hl hd hcl
          have hj := nY 10 hcl hl
          have hk := nY 11 hcl hl
          have hX := hS.1 hj
          have hB := hX.below
          have a2 := eO hA 2 rfl
          refine show_value (v := .pointer (some ⟨w.heap.size, 1, none⟩)) (X' := X) ?_ ⟨hV.upd (fun _ h => Option.some.inj h), Ph2.keep hj hk (by decide) (by decide) (hX.grow (Below.refl _ _) (by decide) (by decide) _)⟩
          generalize A.eval = ρ at *
          clear hA hl hd hcl hV hS
          go_simp
        · intro l vs X A hA ⟨hV, hS⟩ hl hd hcl
          have hj := nY 10 hcl hl
          have hk := nY 11 hcl hl
          have hX := hS.1 hj
          have hB := hX.below
          have a22 := eN hA 22 0 hd hV rfl
          have a23 := eN hA 23 1 hd hV rfl
          refine show_value (v := .pointer (some ⟨w.heap.size, 1 + n * 3, none⟩)) (X' := X) ?_ ⟨hV.upd (fun _ h => Option.some.inj h), Ph2.keep hj hk (by decide) (by decide) (hX.grow (Below.refl _ _) (by decide) (by decide) _)⟩
          generalize A.eval = ρ at *
          clear hA hl hd hcl hV hS
          go_simp
        · intro l vs X A hA ⟨hV, hS⟩ hl hd hcl
          have hj := nY 10 hcl hl
          have hk := nY 11 hcl hl
          have hX := hS.1 hj
          have hB := hX.below
          have a24 := eN hA 24 2 hd hV rfl
          refine show_value (v := .agg (a.r n).a) (X' := X) (run_ld 40 _ rfl _ a24 (ld_row (l := (a.r n).cells) (kn_reg (HJ.out.a.below hB HJ.out.a.lt) n HL.out) (by kernel_rfl))) ⟨hV.upd (fun _ h => Option.some.inj h), Ph2.keep hj hk (by decide) (by decide) (hX.grow (Below.refl _ _) (by decide) (by decide) _)⟩
        · intro l vs X A hA ⟨hV, hS⟩ hl hd hcl
          have hk := nY 11 hcl hl
          have a6 := eO hA 6 rfl
          cases hj : l 10 with
          | true =>
            have hX := hS.2.1 hj hk
            exact show_value (v := .int .i64 (n : Int)) (X' := X) (by generalize A.eval = ρ at *; clear hA hl hd hcl hV hS; go_simp) ⟨hV.upd (fun _ h => Option.some.inj h), Ph2.keepMid hj hk (by decide) (by decide) hX⟩
          | false =>
            have hX := hS.1 hj
            have hB := hX.below
            exact show_value (v := .int .i64 (n : Int)) (X' := X) (by generalize A.eval = ρ at *; clear hA hl hd hcl hV hS; go_simp) ⟨hV.upd (fun _ h => Option.some.inj h), Ph2.keep hj hk (by decide) (by decide) (hX.grow (Below.refl _ _) (by decide) (by decide) _)⟩
        · intro l vs X A hA ⟨hV, hS⟩ hl hd hcl
          have hk := nY 11 hcl hl
          have a3 := eO hA 3 rfl
          cases hj : l 10 with
          | true =>
            have hX := hS.2.1 hj hk
            exact show_value (v := .pointer (some ⟨w.heap.size + 1, 1, none⟩)) (X' := X) (by generalize A.eval = ρ at *; clear hA hl hd hcl hV hS; go_simp) ⟨hV.upd (fun _ h => Option.some.inj h), Ph2.keepMid hj hk (by decide) (by decide) hX⟩
          | false =>
            have hX := hS.1 hj
            have hB := hX.below
            exact show_value (v := .pointer (some ⟨w.heap.size + 1, 1, none⟩)) (X' := X) (by generalize A.eval = ρ at *; clear hA hl hd hcl hV hS; go_simp) ⟨hV.upd (fun _ h => Option.some.inj h), Ph2.keep hj hk (by decide) (by decide) (hX.grow (Below.refl _ _) (by decide) (by decide) _)⟩
        · intro l vs X A hA ⟨hV, hS⟩ hl hd hcl
          have hk := nY 11 hcl hl
          have a26 := eN hA 26 4 hd hV rfl
          have a27 := eN hA 27 5 hd hV rfl
          cases hj : l 10 with
          | true =>
            have hX := hS.2.1 hj hk
            exact show_value (v := .pointer (some ⟨w.heap.size + 1, 1 + n * 3, none⟩)) (X' := X) (by generalize A.eval = ρ at *; clear hA hl hd hcl hV hS; go_simp) ⟨hV.upd (fun _ h => Option.some.inj h), Ph2.keepMid hj hk (by decide) (by decide) hX⟩
          | false =>
            have hX := hS.1 hj
            have hB := hX.below
            exact show_value (v := .pointer (some ⟨w.heap.size + 1, 1 + n * 3, none⟩)) (X' := X) (by generalize A.eval = ρ at *; clear hA hl hd hcl hV hS; go_simp) ⟨hV.upd (fun _ h => Option.some.inj h), Ph2.keep hj hk (by decide) (by decide) (hX.grow (Below.refl _ _) (by decide) (by decide) _)⟩
        · intro l vs X A hA ⟨hV, hS⟩ hl hd hcl
          have hk := nY 11 hcl hl
          have a28 := eN hA 28 6 hd hV rfl
          cases hj : l 10 with
          | true =>
            have hX := hS.2.1 hj hk
            exact show_value (v := .agg (b.r n).a) (X' := X) (run_ld 40 _ rfl _ a28 (ld_row (l := (b.r n).cells) (kn_reg (HJ.out.b.below (bothB2 hX) HJ.out.b.lt) n HL.out) (by kernel_rfl))) ⟨hV.upd (fun _ h => Option.some.inj h), Ph2.keepMid hj hk (by decide) (by decide) hX⟩
          | false =>
            have hX := hS.1 hj
            have hB := hX.below
            exact show_value (v := .agg (b.r n).a) (X' := X) (run_ld 40 _ rfl _ a28 (ld_row (l := (b.r n).cells) (kn_reg (HJ.out.b.below hB HJ.out.b.lt) n HL.out) (by kernel_rfl))) ⟨hV.upd (fun _ h => Option.some.inj h), Ph2.keep hj hk (by decide) (by decide) (hX.grow (Below.refl _ _) (by decide) (by decide) _)⟩
        · intro l vs X A hA ⟨hV, hS⟩ hl hd hcl
          have hj := nY 10 hcl hl
          have hk := nY 11 hcl hl
          have hX := hS.1 hj
          have hB := hX.below
          refine show_value (v := .pointer (some ⟨X.heap.size, 0, none⟩)) (X' := X.alloc (.cells noR.a 40)) ?_ ⟨hV.upd (fun _ h => by cases h), Ph2.keep hj hk (by decide) (by decide) (hX.mkFst (by decide))⟩
          generalize A.eval = ρ at *
          clear hA hl hd hcl hV hS
          rfl
        · intro l vs X A hA ⟨hV, hS⟩ hl hd hcl
          have hj := nY 10 hcl hl
          have hk := nY 11 hcl hl
          have hX := hS.1 hj
          have hB := hX.below
          refine show_value (v := .pointer (some ⟨X.heap.size, 0, none⟩)) (X' := X.alloc (.cells noR.a 40)) ?_ ⟨hV.upd (fun _ h => by cases h), Ph2.keep hj hk (by decide) (by decide) (hX.mkSnd (by decide))⟩
          generalize A.eval = ρ at *
          clear hA hl hd hcl hV hS
          rfl
        · intro l vs X A hA ⟨hV, hS⟩ hl hd hcl
          have hk := nY 11 hcl hl
          have hX := hS.1 hl
          have a7 := eval_new hA 7 8 (by kernel_rfl) (by kernel_rfl) (by kernel_rfl) (hd 8 (by kernel_rfl)) (rfl : vs 8 = vs 8)
          have a25 := eN hA 25 3 hd hV rfl
          obtain ⟨b, hb, hH, hT⟩ := (hX.both (hd 8 (by kernel_rfl)) (hd 9 (by kernel_rfl))).setFst (x' := (a.r n).a)
          rw [hb] at a7
          refine show_skip (run_st_row 40 _ _ rfl b _ _ _ a7 a25 hH (by kernel_rfl) (by kernel_rfl) (Rg.a_one _)) ⟨hV.upd (fun _ h => by cases h), Ph2.mid hk (by decide) ?_⟩
          exact hT
        · intro l vs X A hA ⟨hV, hS⟩ hl hd hcl
          have hX := hS.2.1 (hd 10 (by kernel_rfl)) hl
          have a8 := eval_new hA 8 9 (by kernel_rfl) (by kernel_rfl) (by kernel_rfl) (hd 9 (by kernel_rfl)) (rfl : vs 9 = vs 9)
          have a29 := eN hA 29 7 hd hV rfl
          obtain ⟨b, hb, hH, hT⟩ := hX.setSnd (y' := (b.r n).a)
          rw [hb] at a8
          refine show_skip (run_st_row 40 _ _ rfl b _ _ _ a8 a29 hH (by kernel_rfl) (by kernel_rfl) (Rg.a_one _)) ⟨hV.upd (fun _ h => by cases h), Ph2.last (hd 10 (by kernel_rfl)) ?_⟩
          exact hT
      case hend =>
        intro l vs X hl ⟨hV, hS⟩
        have hX := hS.2.2 (hl 11 (by decide))
        have v0 := hV 0 _ (hl 0 (by decide)) rfl
        have v1 := hV 1 _ (hl 1 (by decide)) rfl
        have v2 := hV 2 _ (hl 2 (by decide)) rfl
        have v3 := hV 3 _ (hl 3 (by decide)) rfl
        have v4 := hV 4 _ (hl 4 (by decide)) rfl
        have v5 := hV 5 _ (hl 5 (by decide)) rfl
        have v6 := hV 6 _ (hl 6 (by decide)) rfl
        have v7 := hV 7 _ (hl 7 (by decide)) rfl
        clear hV hS hl
        obtain ⟨b6, b7, u6, u7, g6, g7, hne, hb6, hb7, hB9⟩ := hX
        simp only [canonL, if_true, v0, v1, v2, v3, v4, v5, v6, v7, u6, u7]
        clear v0 v1 v2 v3 v4 v5 v6 v7 u6 u7
        go_simp
        obtain ⟨W2, hren⟩ : ∃ Z, Z = X := ⟨_, rfl⟩
        subst hren
        have hJ2 := HJ.out.grow hB9
        have hb5 : w.heap.size + 3 < wr.heap.size := HJ.out.k.lt
        obtain ⟨x0, x1, x2⟩ := reg_cells hb6 hx
        obtain ⟨y0, y1, y2⟩ := reg_cells hb7 hy
        have HX : Hid (spanR (a.r n) (b.r n) = if xs = true ∧ ys = true then fromR (min xl yl) (max xg yg) else noR) := by show spanR _ _ = _; rw [hx, hy]; rfl
        clear hB9 HJ hx hy hb6 hb7 g6 g7 hne
        by_cases hc : xs = true ∧ ys = true
        · obtain ⟨rfl, rfl⟩ := hc
          go_upto_region 11 with fail
          first | refine wp_region_lit ?_ | skip
          refine valA (.int .i64 (n : Int)) ?_
          refine valA (.pointer (some ⟨b6, 1, none⟩)) ?_
          refine ldA (ld36 x1) ?_
          refine valA (.pointer (some ⟨b7, 1, none⟩)) ?_
          go_simp
          refine ldA (ld36 y1) ?_
          refine valR (v := .int .u32 ((min xl yl : Nat) : Int)) (run_min36 _ _ rfl xl yl (by kernel_rfl) (by kernel_rfl)) ?_
          obtain ⟨ml, hml⟩ : ∃ ml, ml = min xl yl := ⟨_, rfl⟩
          rw [← hml]
          have HML : Hid (ml = min xl yl) := hml
          clear hml
          refine valA (.pointer (some ⟨b6, 2, none⟩)) ?_
          go_simp
          refine ldA (ld36 x2) ?_
          refine valA (.pointer (some ⟨b7, 2, none⟩)) ?_
          refine ldA (ld36 y2) ?_
          refine valR (v := .int .u32 ((max xg yg : Nat) : Int)) (run_max36 _ _ rfl xg yg (by kernel_rfl) (by kernel_rfl)) ?_
          obtain ⟨mg, hmg⟩ : ∃ mg, mg = max xg yg := ⟨_, rfl⟩
          rw [← hmg]
          have HMG : Hid (mg = max xg yg) := hmg
          clear hmg
          have HS : Hid ((joinO a b n).set n (fromR ml mg) = joinO a b (n + 1)) := by
            show _ = _
            rw [← joinO_set a b n, HX.out, if_pos ⟨rfl, rfl⟩, HML.out, HMG.out]
          clear HX HML HMG x0 x1 x2 y0 y1 y2
          go_simp
          refine valA (.agg (fromR ml mg).a) ?_
          refine valA (.pointer (some ⟨w.heap.size + 3, 1, none⟩)) ?_
          refine valR (v := .pointer (some ⟨w.heap.size + 3, 1 + n * 3, none⟩)) (by clear hJ2; go_simp) ?_
          have ht := there_of (o := 1 + n * 3) (n := 3) hJ2.k (by rw [Kn.a_size]; have := HL.out; omega)
          refine stM (fromR ml mg).a ht (Rg.a_one _) ?_ 40
          have hJ3 := hJ2.set n HL.out (fromR ml mg)
          rw [HS.out] at hJ3
          have hJ4 : OB w a b (joinO a b (n + 1)) (W2.setCells (w.heap.size + 3) (1 + n * 3) (fromR ml mg).a.toList) := hJ3
          clear ht hJ3 hJ2 HS
          generalize W2.setCells (w.heap.size + 3) (1 + n * 3) (fromR ml mg).a.toList = W3 at *
          go_simp
          go_wp2_with fail
          go_roundw
          case rel => exact ⟨n + 1, HL.out, by simp, hJ4⟩
          case measure => simp [intOf]; have := HL.out; omega
        · have HS : Hid (joinO a b (n + 1) = joinO a b n) := joinO_skip a b n (HX.out.trans (if_neg hc))
          have hcc : xs = false ∨ xs = true ∧ ys = false := by
            cases xs
            · exact .inl rfl
            · cases ys
              · exact .inr ⟨rfl, rfl⟩
              · exact absurd ⟨rfl, rfl⟩ hc
          clear HX hc x1 x2 y1 y2
          rcases hcc with rfl | ⟨rfl, rfl⟩
          · go_wp2_with fail
            go_roundw
            case rel => exact ⟨n + 1, HL.out, by simp, by rw [HS.out]; exact hJ2⟩
            case measure => simp [intOf]; have := HL.out; omega
          · go_wp2_with fail
            go_roundw
            case rel => exact ⟨n + 1, HL.out, by simp, by rw [HS.out]; exact hJ2⟩
            case measure => simp [intOf]; have := HL.out; omega
    · obtain rfl : n = 10 := by omega
      clear hlt hn
      go_upto_region 12 with fail
      first | refine wp_region_lit ?_ | skip
      refine ldA (ld43 hr.k) ?_
      refine stW 43 (joinO a b 10).a hr.o (Kn.a_one _) ?_
      have hrow := setRow_has hr.o (joinO a b 10).a
      have hBx : Below w.heap.size w (wr.setRow (w.heap.size + 2) (joinO a b 10).a) := setRow_below hr.below (by omega) _
      clear hr
      generalize wr.setRow (w.heap.size + 2) (joinO a b 10).a = W99 at *
      go_simp
      go_wp2_with fail
      exact bodyPost_ret (results_cell_row rfl _ _ (w.heap.size + 2) 43 _ (0, 0) _ rfl hrow Tryd.underlying43 rfl (by kernel_rfl)) rfl ⟨rfl, hBx⟩
theorem rjoin_any (a b : Kn) (w : World) : Calls Tryd.prog 30 #[.agg a.a, .agg b.a] w fun e w' => e = .returned (.agg (joinK a b).a) ∧ Below w.heap.size w w' := by
  unfold joinK
  cases h1 : a.come with
  | false => rw [if_pos rfl]; exact rjoin_a a b w h1
  | true =>
    rw [if_neg (by decide)]
    cases h2 : b.come with
    | false => rw [if_pos rfl]; exact rjoin_b a b w h1 h2
    | true =>
      rw [if_neg (by decide)]
      have e : (joinTo a b 10).a = (joinO a b 10).a := kn_a_eq h1 (fun n hn => by show (if n < 10 then _ else _) = (if n < 10 then _ else _); rw [if_pos hn, if_pos hn])
      rw [e]
      exact rjoin_c a b w h1 h2
end Go.Proofs.YtodkehpldlmgaaaDoor
