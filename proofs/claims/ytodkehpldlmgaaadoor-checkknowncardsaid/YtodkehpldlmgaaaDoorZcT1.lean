/- The document's Behind: its world. -/
import Derived.Test.YtodkehpldlmgaaaDoorZcS9
namespace Go.Proofs.YtodkehpldlmgaaaDoor
open Go.RowKit

/-- The world of the document's Behind. -/
structure RB (w : World) (i : Ins) (k : Kn) (X : World) : Prop where
  ins : Has X w.heap.size i.a 38
  kn : Has X (w.heap.size + 1) k.a 43
  r : Has X (w.heap.size + 2) (wayA noK noK 0) 49
  below : Below w.heap.size w X
theorem RB.grow {w X X' : World} {i : Ins} {k : Kn} (h : RB w i k X) (g : Below X.heap.size X X') : RB w i k X' :=
  ⟨h.ins.below g h.ins.lt, h.kn.below g h.kn.lt, h.r.below g h.r.lt, h.below.trans (g.mono h.below.size)⟩
theorem RB.ex {w X X' : World} {i : Ins} {k : Kn} {b : Nat} (h : RB w i k X) (g : Ex b X X') (hb : w.heap.size + 3 ≤ b) : RB w i k X' :=
  ⟨h.ins.ex g (by omega), h.kn.ex g (by omega), h.r.ex g (by omega), Below.ex h.below h.below.size g (by omega)⟩
/-- What is known of an instruction's registers. -/
structure Bd (i : Ins) (k : Kn) (d s dl dg sl sg : Nat) (ds ss : Bool) : Prop where
  come : k.come = true
  hd : i.dst = (d : Int)
  dn : d < 10
  hs : i.src = (s : Int)
  sn : s < 10
  rd : k.r d = ⟨ds, dl, dg⟩
  rs : k.r s = ⟨ss, sl, sg⟩
  kd : (k.r d).Ok
  ks : (k.r s).Ok
/-- The document's Behind answers so. -/
def BG (i : Ins) (c : Int) (k : Kn) (w : World) (A : Array Value) : Prop :=
  Calls Tryd.prog 20 #[.agg i.a, .int .i64 c, .agg k.a] w fun e w' => e = .returned (.agg A) ∧ Below w.heap.size w w'
/-- And its two spans. -/
structure RS (w : World) (i : Ins) (k : Kn) (bd bs dl dg sl sg : Nat) (X : World) : Prop where
  base : RB w i k X
  d : Has X bd (spA dl dg) 86
  s : Has X bs (spA sl sg) 86
  ne : bd ≠ bs
  ld : w.heap.size + 3 ≤ bd
  ls : w.heap.size + 3 ≤ bs
theorem RS.grow {w X X' : World} {i : Ins} {k : Kn} {bd bs dl dg sl sg : Nat} (h : RS w i k bd bs dl dg sl sg X) (g : Below X.heap.size X X') : RS w i k bd bs dl dg sl sg X' :=
  ⟨h.base.grow g, h.d.below g h.d.lt, h.s.below g h.s.lt, h.ne, h.ld, h.ls⟩
theorem RS.ex {w X X' : World} {i : Ins} {k : Kn} {bd bs dl dg sl sg b : Nat} (h : RS w i k bd bs dl dg sl sg X) (g : Ex b X X') (hb : w.heap.size + 3 ≤ b) (hd : bd ≠ b) (hs : bs ≠ b) : RS w i k bd bs dl dg sl sg X' :=
  ⟨h.base.ex g hb, h.d.ex g hd, h.s.ex g hs, h.ne, h.ld, h.ls⟩
theorem RS.setS {w X : World} {i : Ins} {k : Kn} {bd bs dl dg sl sg : Nat} (h : RS w i k bd bs dl dg sl sg X) (l g : Nat) : RS w i k bd bs dl dg l g (X.setRow bs (spA l g)) :=
  have e := setRow_ex X bs (spA l g)
  ⟨h.base.ex e h.ls, h.d.ex e h.ne, setRow_has h.s _, h.ne, h.ld, h.ls⟩
/-- And the span that an Op of memory looks at. -/
structure RZ (w : World) (i : Ins) (k : Kn) (bd bs bb dl dg sl sg zl zg : Nat) (X : World) : Prop where
  rs : RS w i k bd bs dl dg sl sg X
  z : Has X bb (spA zl zg) 86
  nd : bd ≠ bb
  ns : bs ≠ bb
  lb : w.heap.size + 3 ≤ bb
theorem RZ.grow {w X X' : World} {i : Ins} {k : Kn} {bd bs bb dl dg sl sg zl zg : Nat} (h : RZ w i k bd bs bb dl dg sl sg zl zg X) (g : Below X.heap.size X X') : RZ w i k bd bs bb dl dg sl sg zl zg X' :=
  ⟨h.rs.grow g, h.z.below g h.z.lt, h.nd, h.ns, h.lb⟩
theorem RZ.setZ {w X : World} {i : Ins} {k : Kn} {bd bs bb dl dg sl sg zl zg : Nat} (h : RZ w i k bd bs bb dl dg sl sg zl zg X) (l g : Nat) : RZ w i k bd bs bb dl dg sl sg l g (X.setRow bb (spA l g)) :=
  ⟨h.rs.ex (setRow_ex X bb (spA l g)) h.lb h.nd h.ns, setRow_has h.z _, h.nd, h.ns, h.lb⟩
theorem RB.setK {w X : World} {i : Ins} {k : Kn} (h : RB w i k X) (k' : Kn) : RB w i k' (X.setRow (w.heap.size + 1) k'.a) :=
  have e := setRow_ex X (w.heap.size + 1) k'.a
  ⟨h.ins.ex e (by omega), setRow_has h.kn _, h.r.ex e (by omega), setRow_below h.below (by omega) _⟩
theorem RB.setR {w X : World} {i : Ins} {k : Kn} (h : RB w i k X) (n : Nat) (hn : n < 10) (r : Rg) : RB w i (k.set n r) (X.setCells (w.heap.size + 1) (1 + n * 3) r.cells) :=
  have g := setReg h.kn n hn r
  ⟨h.ins.ex g.2 (by omega), g.1, h.r.ex g.2 (by omega), Below.ex h.below h.below.size g.2 (by omega)⟩
theorem reg_set {w X : World} {i : Ins} {k : Kn} (h : RB w i k X) (n : Nat) (hn : n < 10) : X.cell? ⟨w.heap.size + 1, 1 + n * 3, none⟩ = some (.bool (k.r n).set) := kn_reg h.kn n hn 0 _ rfl
theorem put_none (a : Act) (v : Value) : a.put none v = a := rfl
def findR (q : Nat) : Code → Option (Array Oper)
  | .region id ops _ => if id = q then some ops else none
  | .seq a b => (findR q a).orElse fun _ => findR q b
  | .cond _ a b => (findR q a).orElse fun _ => findR q b
  | .block _ b => findR q b
  | .loop b => findR q b
  | .scope b => findR q b
  | .rangeFunc _ _ _ b => findR q b
  | _ => none
/-- The operations of a function's region. -/
def opsAt (f : Func) (q : Nat) : Array Oper := (f.body.bind (findR q)).getD #[]
theorem run_conv36 {o : Oper} {ρ : Operand → Value} {X : World} (x : Operand) (ho : o.op = .convert 36 2 x) (a : Int) (hx : ρ x = .int .u32 a) (h : IntKind.i64.wrap a = a) : (execOp ρ o).run Tryd.prog X = .ok (.value (.int .i64 a)) X := by
  unfold execOp
  simp only [ho]
  go_simp
theorem rspan_at (r : Rg) (a : Bool) (l g : Nat) (hr : r = ⟨a, l, g⟩) (hk : r.Ok) (w : World) : Calls Tryd.prog 35 #[.agg r.a] w fun e w' => e = .returned (spV (l : Int) (g : Int)) ∧ Below w.heap.size w w' := by
  subst hr
  exact rspan_any ⟨a, l, g⟩ hk w
theorem uses_at (op : Int) (d s o m q : Bool) (h : useD op = d ∧ useS op = s ∧ useO op = o ∧ useM op = m ∧ useI op = q) (w : World) :
    Calls Tryd.prog 34 #[.int .i64 op] w fun e w' => e = .returned (.tuple #[.bool d, .bool s, .bool o, .bool m, .bool q]) ∧ w = w' := by
  obtain ⟨rfl, rfl, rfl, rfl, rfl⟩ := h
  exact uses_any op w
def spK (w : World) (k : Kn) (d s dl dg sl sg b6 b7 : Nat) (a0 : Act) : Act := ((((((((((((((a0.put (some 85) (.pointer (some ⟨w.heap.size, 1, none⟩))).put (some 86) (.int .i64 (d : Int))).put (some 87) (.pointer (some ⟨w.heap.size + 1, 1, none⟩))).put (some 88) (.pointer (some ⟨w.heap.size + 1, 1 + d * 3, none⟩))).put (some 89) (.agg (k.r d).a)).put (some 90) (spV (dl : Int) (dg : Int))).put (some 91) (.pointer (some ⟨w.heap.size, 2, none⟩))).put (some 92) (.int .i64 (s : Int))).put (some 93) (.pointer (some ⟨w.heap.size + 1, 1, none⟩))).put (some 94) (.pointer (some ⟨w.heap.size + 1, 1 + s * 3, none⟩))).put (some 95) (.agg (k.r s).a)).put (some 96) (spV (sl : Int) (sg : Int))).put (some 14) (.pointer (some ⟨b6, 0, none⟩))).put (some 15) (.pointer (some ⟨b7, 0, none⟩)))
set_option maxRecDepth 10000 in
set_option maxHeartbeats 4000000 in
theorem spans_reg {id : Nat} {ops : Array Oper} (h : opsAt Tryd.f20 8 = ops) {a0 : Act} {w W1 : World} {Q : Exit → Act → World → Prop} {i : Ins} {k : Kn} {d s dl dg sl sg : Nat} {ds ss : Bool} (hR0 : RB w i k W1) (Hdd : i.dst = (d : Int)) (hdn : d < 10) (Hss : i.src = (s : Int)) (hsn : s < 10) (hrd : k.r d = ⟨ds, dl, dg⟩) (hrs : k.r s = ⟨ss, sl, sg⟩) (hkd : (k.r d).Ok) (hks : (k.r s).Ok)
    (K : ∀ b6 b7 X, RS w i k b6 b7 dl dg sl sg X → Q .normal (spK w k d s dl dg sl sg b6 b7 a0) X)
    (hsz : decide (205 ≤ a0.tmps.size) = true := by kernel_rfl) (e3 : a0.eval (.tmp 3) = .pointer (some ⟨w.heap.size, 0, none⟩) := by kernel_rfl) (e5 : a0.eval (.tmp 5) = .pointer (some ⟨w.heap.size + 1, 0, none⟩) := by kernel_rfl) :
    (Code.region id ops true).wp Tryd.prog Q a0 W1 := by
  simp only [opsAt, findR, Tryd.f20, Option.bind, Option.orElse, Option.getD, reduceIte, Nat.reduceEqDiff] at h
  subst h
  have hz : ∀ t, t < 205 → decide (t < a0.tmps.size) = true := fun t h => decide_eq_true (Nat.lt_of_lt_of_le h (of_decide_eq_true hsz))
  have hd10 : (d : Int) < 10 := by omega
  have hs10 : (s : Int) < 10 := by omega
  refine wp_region_inv (Φ := fun l vs X => Vals (fun q => match q with | 0 => some (.pointer (some ⟨w.heap.size, 1, none⟩)) | 1 => some (.int .i64 (d : Int)) | 2 => some (.pointer (some ⟨w.heap.size + 1, 1, none⟩)) | 3 => some (.pointer (some ⟨w.heap.size + 1, 1 + d * 3, none⟩)) | 4 => some (.agg (k.r d).a) | 5 => some (spV (dl : Int) (dg : Int)) | 6 => some (.pointer (some ⟨w.heap.size, 2, none⟩)) | 7 => some (.int .i64 (s : Int)) | 8 => some (.pointer (some ⟨w.heap.size + 1, 1, none⟩)) | 9 => some (.pointer (some ⟨w.heap.size + 1, 1 + s * 3, none⟩)) | 10 => some (.agg (k.r s).a) | 11 => some (spV (sl : Int) (sg : Int)) | _ => none) l vs ∧ Ph2 14 15 (Two W1.heap.size 86 (spA 0 0) W1 12 13) (fun vs X => Both W1.heap.size 86 (spA dl dg) (spA 0 0) W1 (vs 12) (vs 13) X) (fun vs X => Both W1.heap.size 86 (spA dl dg) (spA sl sg) W1 (vs 12) (vs 13) X) l vs X) (PQ := fun _ _ => False)
    (by kernel_rfl) (by kernel_rfl) (by kernel_rfl) (by kernel_rfl) ⟨Vals.none _ _, Ph2.start (Two.start ((Below.refl _ _).drew) (Nat.le_refl _))⟩ ?hop ?hend (fun _ _ _ _ h => h.elim)
  case hop =>
    refine ⟨?_, ?_, ?_, ?_, ?_, ?_, ?_, ?_, ?_, ?_, ?_, ?_, ?_, ?_, ?_, ?_, trivial⟩
    · intro l vs X A hA ⟨hV, hS⟩ hl hd hcl
      have hj := nY 14 hcl hl
      have hk := nY 15 hcl hl
      have hX := hS.1 hj
      have hB := hX.below
      have a3 := eO hA 3 e3
      refine show_value (v := .pointer (some ⟨w.heap.size, 1, none⟩)) (X' := X) ?_ ⟨hV.upd (fun _ h => Option.some.inj h), Ph2.keep hj hk (by decide) (by decide) (hX.grow (Below.refl _ _) (by decide) (by decide) _)⟩
      generalize A.eval = ρ at *
      clear hA hl hd hcl hV hS
      go_simp
    · intro l vs X A hA ⟨hV, hS⟩ hl hd hcl
      have hj := nY 14 hcl hl
      have hk := nY 15 hcl hl
      have hX := hS.1 hj
      have hB := hX.below
      have a85 := eval_new hA 85 0 (by kernel_rfl) (by kernel_rfl) (hz _ (by decide)) (hd 0 (by kernel_rfl)) (hV 0 _ (hd 0 (by kernel_rfl)) rfl)
      refine show_value (v := .int .i64 (d : Int)) (X' := X) (run_ld 3 _ rfl _ a85 (ld3 (show X.cell? ⟨w.heap.size, 1, none⟩ = some (.int .i64 (d : Int)) from by rw [← Hdd]; exact (hR0.ins.below hB hR0.ins.lt).cell 1))) ⟨hV.upd (fun _ h => Option.some.inj h), Ph2.keep hj hk (by decide) (by decide) (hX.grow (Below.refl _ _) (by decide) (by decide) _)⟩
    · intro l vs X A hA ⟨hV, hS⟩ hl hd hcl
      have hj := nY 14 hcl hl
      have hk := nY 15 hcl hl
      have hX := hS.1 hj
      have hB := hX.below
      have a5 := eO hA 5 e5
      refine show_value (v := .pointer (some ⟨w.heap.size + 1, 1, none⟩)) (X' := X) ?_ ⟨hV.upd (fun _ h => Option.some.inj h), Ph2.keep hj hk (by decide) (by decide) (hX.grow (Below.refl _ _) (by decide) (by decide) _)⟩
      generalize A.eval = ρ at *
      clear hA hl hd hcl hV hS
      go_simp
    · intro l vs X A hA ⟨hV, hS⟩ hl hd hcl
      have hj := nY 14 hcl hl
      have hk := nY 15 hcl hl
      have hX := hS.1 hj
      have hB := hX.below
      have a86 := eval_new hA 86 1 (by kernel_rfl) (by kernel_rfl) (hz _ (by decide)) (hd 1 (by kernel_rfl)) (hV 1 _ (hd 1 (by kernel_rfl)) rfl)
      have a87 := eval_new hA 87 2 (by kernel_rfl) (by kernel_rfl) (hz _ (by decide)) (hd 2 (by kernel_rfl)) (hV 2 _ (hd 2 (by kernel_rfl)) rfl)
      refine show_value (v := .pointer (some ⟨w.heap.size + 1, 1 + d * 3, none⟩)) (X' := X) ?_ ⟨hV.upd (fun _ h => Option.some.inj h), Ph2.keep hj hk (by decide) (by decide) (hX.grow (Below.refl _ _) (by decide) (by decide) _)⟩
      generalize A.eval = ρ at *
      clear hA hl hd hcl hV hS
      go_simp
    · intro l vs X A hA ⟨hV, hS⟩ hl hd hcl
      have hj := nY 14 hcl hl
      have hk := nY 15 hcl hl
      have hX := hS.1 hj
      have hB := hX.below
      have a88 := eval_new hA 88 3 (by kernel_rfl) (by kernel_rfl) (hz _ (by decide)) (hd 3 (by kernel_rfl)) (hV 3 _ (hd 3 (by kernel_rfl)) rfl)
      refine show_value (v := .agg (k.r d).a) (X' := X) (run_ld 40 _ rfl _ a88 (ld_row (l := (k.r d).cells) (kn_reg (hR0.kn.below hB hR0.kn.lt) d hdn) (by kernel_rfl))) ⟨hV.upd (fun _ h => Option.some.inj h), Ph2.keep hj hk (by decide) (by decide) (hX.grow (Below.refl _ _) (by decide) (by decide) _)⟩
    · intro l vs X A hA ⟨hV, hS⟩ hl hd hcl
      have hj := nY 14 hcl hl
      have hk := nY 15 hcl hl
      have hX := hS.1 hj
      have hB := hX.below
      have a89 := eval_new hA 89 4 (by kernel_rfl) (by kernel_rfl) (hz _ (by decide)) (hd 4 (by kernel_rfl)) (hV 4 _ (hd 4 (by kernel_rfl)) rfl)
      have aF0 : A.eval (.func 35) = .func (.func 35) #[] #[] := rfl
      refine show_call (f := 35) (args := #[.agg (k.r d).a]) ?_ (rspan_at _ _ _ _ hrd hkd X) ?_
      · generalize A.eval = ρ at *
        clear hA hl hd hcl hV hS
        go_simp
      · rintro e X' ⟨rfl, hB1⟩
        exact .inl ⟨_, rfl, hV.upd (fun _ h => Option.some.inj h), Ph2.keep hj hk (by decide) (by decide) (hX.grow hB1 (by decide) (by decide) _)⟩
    · intro l vs X A hA ⟨hV, hS⟩ hl hd hcl
      have hj := nY 14 hcl hl
      have hk := nY 15 hcl hl
      have hX := hS.1 hj
      have hB := hX.below
      have a3 := eO hA 3 e3
      refine show_value (v := .pointer (some ⟨w.heap.size, 2, none⟩)) (X' := X) ?_ ⟨hV.upd (fun _ h => Option.some.inj h), Ph2.keep hj hk (by decide) (by decide) (hX.grow (Below.refl _ _) (by decide) (by decide) _)⟩
      generalize A.eval = ρ at *
      clear hA hl hd hcl hV hS
      go_simp
    · intro l vs X A hA ⟨hV, hS⟩ hl hd hcl
      have hj := nY 14 hcl hl
      have hk := nY 15 hcl hl
      have hX := hS.1 hj
      have hB := hX.below
      have a91 := eval_new hA 91 6 (by kernel_rfl) (by kernel_rfl) (hz _ (by decide)) (hd 6 (by kernel_rfl)) (hV 6 _ (hd 6 (by kernel_rfl)) rfl)
      refine show_value (v := .int .i64 (s : Int)) (X' := X) (run_ld 3 _ rfl _ a91 (ld3 (show X.cell? ⟨w.heap.size, 2, none⟩ = some (.int .i64 (s : Int)) from by rw [← Hss]; exact (hR0.ins.below hB hR0.ins.lt).cell 2))) ⟨hV.upd (fun _ h => Option.some.inj h), Ph2.keep hj hk (by decide) (by decide) (hX.grow (Below.refl _ _) (by decide) (by decide) _)⟩
    · intro l vs X A hA ⟨hV, hS⟩ hl hd hcl
      have hj := nY 14 hcl hl
      have hk := nY 15 hcl hl
      have hX := hS.1 hj
      have hB := hX.below
      have a5 := eO hA 5 e5
      refine show_value (v := .pointer (some ⟨w.heap.size + 1, 1, none⟩)) (X' := X) ?_ ⟨hV.upd (fun _ h => Option.some.inj h), Ph2.keep hj hk (by decide) (by decide) (hX.grow (Below.refl _ _) (by decide) (by decide) _)⟩
      generalize A.eval = ρ at *
      clear hA hl hd hcl hV hS
      go_simp
    · intro l vs X A hA ⟨hV, hS⟩ hl hd hcl
      have hj := nY 14 hcl hl
      have hk := nY 15 hcl hl
      have hX := hS.1 hj
      have hB := hX.below
      have a92 := eval_new hA 92 7 (by kernel_rfl) (by kernel_rfl) (hz _ (by decide)) (hd 7 (by kernel_rfl)) (hV 7 _ (hd 7 (by kernel_rfl)) rfl)
      have a93 := eval_new hA 93 8 (by kernel_rfl) (by kernel_rfl) (hz _ (by decide)) (hd 8 (by kernel_rfl)) (hV 8 _ (hd 8 (by kernel_rfl)) rfl)
      refine show_value (v := .pointer (some ⟨w.heap.size + 1, 1 + s * 3, none⟩)) (X' := X) ?_ ⟨hV.upd (fun _ h => Option.some.inj h), Ph2.keep hj hk (by decide) (by decide) (hX.grow (Below.refl _ _) (by decide) (by decide) _)⟩
      generalize A.eval = ρ at *
      clear hA hl hd hcl hV hS
      go_simp
    · intro l vs X A hA ⟨hV, hS⟩ hl hd hcl
      have hj := nY 14 hcl hl
      have hk := nY 15 hcl hl
      have hX := hS.1 hj
      have hB := hX.below
      have a94 := eval_new hA 94 9 (by kernel_rfl) (by kernel_rfl) (hz _ (by decide)) (hd 9 (by kernel_rfl)) (hV 9 _ (hd 9 (by kernel_rfl)) rfl)
      refine show_value (v := .agg (k.r s).a) (X' := X) (run_ld 40 _ rfl _ a94 (ld_row (l := (k.r s).cells) (kn_reg (hR0.kn.below hB hR0.kn.lt) s hsn) (by kernel_rfl))) ⟨hV.upd (fun _ h => Option.some.inj h), Ph2.keep hj hk (by decide) (by decide) (hX.grow (Below.refl _ _) (by decide) (by decide) _)⟩
    · intro l vs X A hA ⟨hV, hS⟩ hl hd hcl
      have hj := nY 14 hcl hl
      have hk := nY 15 hcl hl
      have hX := hS.1 hj
      have hB := hX.below
      have a95 := eval_new hA 95 10 (by kernel_rfl) (by kernel_rfl) (hz _ (by decide)) (hd 10 (by kernel_rfl)) (hV 10 _ (hd 10 (by kernel_rfl)) rfl)
      have aF0 : A.eval (.func 35) = .func (.func 35) #[] #[] := rfl
      refine show_call (f := 35) (args := #[.agg (k.r s).a]) ?_ (rspan_at _ _ _ _ hrs hks X) ?_
      · generalize A.eval = ρ at *
        clear hA hl hd hcl hV hS
        go_simp
      · rintro e X' ⟨rfl, hB1⟩
        exact .inl ⟨_, rfl, hV.upd (fun _ h => Option.some.inj h), Ph2.keep hj hk (by decide) (by decide) (hX.grow hB1 (by decide) (by decide) _)⟩
    · intro l vs X A hA ⟨hV, hS⟩ hl hd hcl
      have hj := nY 14 hcl hl
      have hk := nY 15 hcl hl
      have hX := hS.1 hj
      have hB := hX.below
      refine show_value (v := .pointer (some ⟨X.heap.size, 0, none⟩)) (X' := X.alloc (.cells (spA 0 0) 86)) ?_ ⟨hV.upd (fun _ h => by cases h), Ph2.keep hj hk (by decide) (by decide) (hX.mkFst (by decide))⟩
      generalize A.eval = ρ at *
      clear hA hl hd hcl hV hS
      rfl
    · intro l vs X A hA ⟨hV, hS⟩ hl hd hcl
      have hj := nY 14 hcl hl
      have hk := nY 15 hcl hl
      have hX := hS.1 hj
      have hB := hX.below
      refine show_value (v := .pointer (some ⟨X.heap.size, 0, none⟩)) (X' := X.alloc (.cells (spA 0 0) 86)) ?_ ⟨hV.upd (fun _ h => by cases h), Ph2.keep hj hk (by decide) (by decide) (hX.mkSnd (by decide))⟩
      generalize A.eval = ρ at *
      clear hA hl hd hcl hV hS
      rfl
    · intro l vs X A hA ⟨hV, hS⟩ hl hd hcl
      have hk := nY 15 hcl hl
      have hX := hS.1 hl
      have a14 := eval_new hA 14 12 (by kernel_rfl) (by kernel_rfl) (hz _ (by decide)) (hd 12 (by kernel_rfl)) (rfl : vs 12 = vs 12)
      have a90 := eval_new hA 90 5 (by kernel_rfl) (by kernel_rfl) (hz _ (by decide)) (hd 5 (by kernel_rfl)) (hV 5 _ (hd 5 (by kernel_rfl)) rfl)
      obtain ⟨b, hb, hH, hT⟩ := (hX.both (hd 12 (by kernel_rfl)) (hd 13 (by kernel_rfl))).setFst (x' := (spA dl dg))
      rw [hb] at a14
      refine show_skip (run_st_row 86 _ _ rfl b _ _ _ a14 a90 hH (by kernel_rfl) (by kernel_rfl) (by kernel_rfl)) ⟨hV.upd (fun _ h => by cases h), Ph2.mid hk (by decide) ?_⟩
      exact hT
    · intro l vs X A hA ⟨hV, hS⟩ hl hd hcl
      have hX := hS.2.1 (hd 14 (by kernel_rfl)) hl
      have a15 := eval_new hA 15 13 (by kernel_rfl) (by kernel_rfl) (hz _ (by decide)) (hd 13 (by kernel_rfl)) (rfl : vs 13 = vs 13)
      have a96 := eval_new hA 96 11 (by kernel_rfl) (by kernel_rfl) (hz _ (by decide)) (hd 11 (by kernel_rfl)) (hV 11 _ (hd 11 (by kernel_rfl)) rfl)
      obtain ⟨b, hb, hH, hT⟩ := hX.setSnd (y' := (spA sl sg))
      rw [hb] at a15
      refine show_skip (run_st_row 86 _ _ rfl b _ _ _ a15 a96 hH (by kernel_rfl) (by kernel_rfl) (by kernel_rfl)) ⟨hV.upd (fun _ h => by cases h), Ph2.last (hd 14 (by kernel_rfl)) ?_⟩
      exact hT
  case hend =>
    intro l vs X hl ⟨hV, hS⟩
    have hX := hS.2.2 (hl 15 (by decide))
    have v0 := hV 0 _ (hl 0 (by decide)) rfl
    have v1 := hV 1 _ (hl 1 (by decide)) rfl
    have v2 := hV 2 _ (hl 2 (by decide)) rfl
    have v3 := hV 3 _ (hl 3 (by decide)) rfl
    have v4 := hV 4 _ (hl 4 (by decide)) rfl
    have v5 := hV 5 _ (hl 5 (by decide)) rfl
    have v6 := hV 6 _ (hl 6 (by decide)) rfl
    have v7 := hV 7 _ (hl 7 (by decide)) rfl
    have v8 := hV 8 _ (hl 8 (by decide)) rfl
    have v9 := hV 9 _ (hl 9 (by decide)) rfl
    have v10 := hV 10 _ (hl 10 (by decide)) rfl
    have v11 := hV 11 _ (hl 11 (by decide)) rfl
    clear hV hS hl
    obtain ⟨b6, b7, u6, u7, g6, g7, hne, hb6, hb7, hB9⟩ := hX
    simp only [canonL, if_true, v0, v1, v2, v3, v4, v5, v6, v7, v8, v9, v10, v11, u6, u7]
    clear v0 v1 v2 v3 v4 v5 v6 v7 v8 v9 v10 v11 u6 u7
    unfold spK at K
    rw [put_none, put_none]
    exact K b6 b7 X ⟨hR0.grow hB9, hb6, hb7, hne, Nat.le_trans hR0.r.lt g6, Nat.le_trans hR0.r.lt g7⟩
def mdK (w : World) (k : Kn) (N : Int) (d dl dg sl sg ml mg : Nat) (a0 : Act) : Act := (((((((((a0.put (some 152) (.agg k.a)).put (some 153) (.pointer (some ⟨w.heap.size, 1, none⟩))).put (some 154) (.int .i64 (d : Int))).put (some 155) (.int .i64 N)).put (some 156) (spV (dl : Int) (dg : Int))).put (some 157) (spV (sl : Int) (sg : Int))).put (some 158) (spV (ml : Int) (mg : Int))).put (some 159) (.agg (k.set d (fromR ml mg)).a)).put (some 160) (.agg (wayA (k.set d (fromR ml mg)) noK 0)))
set_option maxRecDepth 10000 in
set_option maxHeartbeats 4000000 in
theorem made_reg {id : Nat} {ops : Array Oper} (h : opsAt Tryd.f20 22 = ops) {a0 : Act} {w W1 : World} {Q : Exit → Act → World → Prop} {i : Ins} {k : Kn} {N : Int} {d dl dg sl sg ml mg b6 b7 : Nat} (hR : RS w i k b6 b7 dl dg sl sg W1) (Hdd : i.dst = (d : Int)) (hdn : d < 10) (hml : ml < 4294967296) (hmg : mg < 4294967296)
    (hmk : ∀ X, Calls Tryd.prog 37 #[.int .i64 N, spV dl dg, spV sl sg] X fun e w' => e = .returned (spV (ml : Int) (mg : Int)) ∧ Below X.heap.size X w')
    (K : ∀ X, Has X (w.heap.size + 2) (wayA (k.set d (fromR ml mg)) noK 0) 49 → Below w.heap.size w X → Q .normal (mdK w k N d dl dg sl sg ml mg a0) X)
    (hsz : decide (205 ≤ a0.tmps.size) = true := by kernel_rfl) (e3 : a0.eval (.tmp 3) = .pointer (some ⟨w.heap.size, 0, none⟩) := by kernel_rfl) (e5 : a0.eval (.tmp 5) = .pointer (some ⟨w.heap.size + 1, 0, none⟩) := by kernel_rfl) (e6 : a0.eval (.tmp 6) = .pointer (some ⟨w.heap.size + 2, 0, none⟩) := by kernel_rfl)
    (e7 : a0.eval (.tmp 7) = .int .i64 N := by kernel_rfl) (e14 : a0.eval (.tmp 14) = .pointer (some ⟨b6, 0, none⟩) := by kernel_rfl) (e15 : a0.eval (.tmp 15) = .pointer (some ⟨b7, 0, none⟩) := by kernel_rfl) :
    (Code.region id ops true).wp Tryd.prog Q a0 W1 := by
  simp only [opsAt, findR, Tryd.f20, Option.bind, Option.orElse, Option.getD, reduceIte, Nat.reduceEqDiff] at h
  subst h
  have hz : ∀ t, t < 205 → decide (t < a0.tmps.size) = true := fun t h => decide_eq_true (Nat.lt_of_lt_of_le h (of_decide_eq_true hsz))
  have hwi := rwith_any k d hdn ml mg hml hmg
  refine wp_region_inv (Φ := fun l vs X => Vals (fun q => match q with | 0 => some (.agg k.a) | 1 => some (.pointer (some ⟨w.heap.size, 1, none⟩)) | 2 => some (.int .i64 (d : Int)) | 3 => some (.int .i64 N) | 4 => some (spV (dl : Int) (dg : Int)) | 5 => some (spV (sl : Int) (sg : Int)) | 6 => some (spV (ml : Int) (mg : Int)) | 7 => some (.agg (k.set d (fromR ml mg)).a) | 8 => some (.agg (wayA (k.set d (fromR ml mg)) noK 0)) | _ => none) l vs ∧ Pre1 9 (Below W1.heap.size W1) (fun X => Has X (w.heap.size + 2) (wayA (k.set d (fromR ml mg)) noK 0) 49 ∧ Below w.heap.size w X) l X) (PQ := fun _ _ => False)
    (by kernel_rfl) (by kernel_rfl) (by kernel_rfl) (by kernel_rfl) ⟨Vals.none _ _, Pre1.start ((Below.refl _ _).drew)⟩ ?hop ?hend (fun _ _ _ _ h => h.elim)
  case hop =>
    refine ⟨?_, ?_, ?_, ?_, ?_, ?_, ?_, ?_, ?_, ?_, trivial⟩
    · intro l vs X A hA ⟨hV, hS⟩ hl hd hcl
      have hk := nY 9 hcl hl
      have hX := hS.1 hk
      have hB := hX
      have a5 := eO hA 5 e5
      refine show_value (v := .agg k.a) (X' := X) (run_ld 43 _ rfl _ a5 (ld43 (hR.grow hB).base.kn)) ⟨hV.upd (fun _ h => Option.some.inj h), Pre1.keep hk (by decide) (hX)⟩
    · intro l vs X A hA ⟨hV, hS⟩ hl hd hcl
      have hk := nY 9 hcl hl
      have hX := hS.1 hk
      have hB := hX
      have a3 := eO hA 3 e3
      refine show_value (v := .pointer (some ⟨w.heap.size, 1, none⟩)) (X' := X) ?_ ⟨hV.upd (fun _ h => Option.some.inj h), Pre1.keep hk (by decide) (hX)⟩
      generalize A.eval = ρ at *
      clear hA hl hd hcl hV hS
      go_simp
    · intro l vs X A hA ⟨hV, hS⟩ hl hd hcl
      have hk := nY 9 hcl hl
      have hX := hS.1 hk
      have hB := hX
      have a153 := eval_new hA 153 1 (by kernel_rfl) (by kernel_rfl) (hz _ (by decide)) (hd 1 (by kernel_rfl)) (hV 1 _ (hd 1 (by kernel_rfl)) rfl)
      refine show_value (v := .int .i64 (d : Int)) (X' := X) (run_ld 3 _ rfl _ a153 (ld3 (show X.cell? ⟨w.heap.size, 1, none⟩ = some (.int .i64 (d : Int)) from by rw [← Hdd]; exact (hR.grow hB).base.ins.cell 1))) ⟨hV.upd (fun _ h => Option.some.inj h), Pre1.keep hk (by decide) (hX)⟩
    · intro l vs X A hA ⟨hV, hS⟩ hl hd hcl
      have hk := nY 9 hcl hl
      have hX := hS.1 hk
      have hB := hX
      have a7 := eO hA 7 e7
      refine show_value (v := .int .i64 N) (X' := X) ?_ ⟨hV.upd (fun _ h => Option.some.inj h), Pre1.keep hk (by decide) (hX)⟩
      generalize A.eval = ρ at *
      clear hA hl hd hcl hV hS
      go_simp
    · intro l vs X A hA ⟨hV, hS⟩ hl hd hcl
      have hk := nY 9 hcl hl
      have hX := hS.1 hk
      have hB := hX
      have a14 := eO hA 14 e14
      refine show_value (v := spV (dl : Int) (dg : Int)) (X' := X) (run_ld 86 _ rfl _ a14 (ld86 (hR.grow hB).d)) ⟨hV.upd (fun _ h => Option.some.inj h), Pre1.keep hk (by decide) (hX)⟩
    · intro l vs X A hA ⟨hV, hS⟩ hl hd hcl
      have hk := nY 9 hcl hl
      have hX := hS.1 hk
      have hB := hX
      have a15 := eO hA 15 e15
      refine show_value (v := spV (sl : Int) (sg : Int)) (X' := X) (run_ld 86 _ rfl _ a15 (ld86 (hR.grow hB).s)) ⟨hV.upd (fun _ h => Option.some.inj h), Pre1.keep hk (by decide) (hX)⟩
    · intro l vs X A hA ⟨hV, hS⟩ hl hd hcl
      have hk := nY 9 hcl hl
      have hX := hS.1 hk
      have hB := hX
      have a155 := eval_new hA 155 3 (by kernel_rfl) (by kernel_rfl) (hz _ (by decide)) (hd 3 (by kernel_rfl)) (hV 3 _ (hd 3 (by kernel_rfl)) rfl)
      have a156 := eval_new hA 156 4 (by kernel_rfl) (by kernel_rfl) (hz _ (by decide)) (hd 4 (by kernel_rfl)) (hV 4 _ (hd 4 (by kernel_rfl)) rfl)
      have a157 := eval_new hA 157 5 (by kernel_rfl) (by kernel_rfl) (hz _ (by decide)) (hd 5 (by kernel_rfl)) (hV 5 _ (hd 5 (by kernel_rfl)) rfl)
      have aF0 : A.eval (.func 37) = .func (.func 37) #[] #[] := rfl
      refine show_call (f := 37) (args := #[.int .i64 N, spV (dl : Int) (dg : Int), spV (sl : Int) (sg : Int)]) ?_ (hmk X) ?_
      · generalize A.eval = ρ at *
        clear hA hl hd hcl hV hS
        go_simp
      · rintro e X' ⟨rfl, hB1⟩
        exact .inl ⟨_, rfl, hV.upd (fun _ h => Option.some.inj h), Pre1.keep hk (by decide) (hX.trans (hB1.mono hX.size))⟩
    · intro l vs X A hA ⟨hV, hS⟩ hl hd hcl
      have hk := nY 9 hcl hl
      have hX := hS.1 hk
      have hB := hX
      have a152 := eval_new hA 152 0 (by kernel_rfl) (by kernel_rfl) (hz _ (by decide)) (hd 0 (by kernel_rfl)) (hV 0 _ (hd 0 (by kernel_rfl)) rfl)
      have a154 := eval_new hA 154 2 (by kernel_rfl) (by kernel_rfl) (hz _ (by decide)) (hd 2 (by kernel_rfl)) (hV 2 _ (hd 2 (by kernel_rfl)) rfl)
      have a158 := eval_new hA 158 6 (by kernel_rfl) (by kernel_rfl) (hz _ (by decide)) (hd 6 (by kernel_rfl)) (hV 6 _ (hd 6 (by kernel_rfl)) rfl)
      have aF0 : A.eval (.func 36) = .func (.func 36) #[] #[] := rfl
      refine show_call (f := 36) (args := #[.agg k.a, .int .i64 (d : Int), spV (ml : Int) (mg : Int)]) ?_ (hwi X) ?_
      · generalize A.eval = ρ at *
        clear hA hl hd hcl hV hS
        go_simp
      · rintro e X' ⟨rfl, hB1⟩
        exact .inl ⟨_, rfl, hV.upd (fun _ h => Option.some.inj h), Pre1.keep hk (by decide) (hX.trans (hB1.mono hX.size))⟩
    · intro l vs X A hA ⟨hV, hS⟩ hl hd hcl
      have hk := nY 9 hcl hl
      have hX := hS.1 hk
      have hB := hX
      have a159 := eval_new hA 159 7 (by kernel_rfl) (by kernel_rfl) (hz _ (by decide)) (hd 7 (by kernel_rfl)) (hV 7 _ (hd 7 (by kernel_rfl)) rfl)
      refine show_value (v := .agg (wayA (k.set d (fromR ml mg)) noK 0)) (X' := X) ?_ ⟨hV.upd (fun _ h => Option.some.inj h), Pre1.keep hk (by decide) (hX)⟩
      have hb := build_wayN (k.set d (fromR ml mg)) X
      generalize A.eval = ρ at *
      clear hA hl hd hcl hV hS hX hB
      unfold execOp
      simp only [List.map_toArray, List.map_cons, List.map_nil, a159, Sem.run_bind, hb, Result.andThen_ok, Sem.run_pure]
    · intro l vs X A hA ⟨hV, hS⟩ hl hd hcl
      have hX := hS.1 hl
      have hB := hX
      have hX := hS.1 hl
      have a6 := eO hA 6 e6
      have a160 := eval_new hA 160 8 (by kernel_rfl) (by kernel_rfl) (hz _ (by decide)) (hd 8 (by kernel_rfl)) (hV 8 _ (hd 8 (by kernel_rfl)) rfl)
      have hg := hR.grow hX
      exact show_skip (run_st_row 49 _ _ rfl (w.heap.size + 2) _ _ _ a6 a160 hg.base.r (by kernel_rfl) (by kernel_rfl) (wayA_one _ _ _)) ⟨hV.upd (fun _ h => by cases h), Pre1.last ⟨setRow_has hg.base.r _, setRow_below hg.base.below (by omega) _⟩⟩
  case hend =>
    intro l vs X hl ⟨hV, hS⟩
    have hX := hS.2 (hl 9 (by decide))
    have v0 := hV 0 _ (hl 0 (by decide)) rfl
    have v1 := hV 1 _ (hl 1 (by decide)) rfl
    have v2 := hV 2 _ (hl 2 (by decide)) rfl
    have v3 := hV 3 _ (hl 3 (by decide)) rfl
    have v4 := hV 4 _ (hl 4 (by decide)) rfl
    have v5 := hV 5 _ (hl 5 (by decide)) rfl
    have v6 := hV 6 _ (hl 6 (by decide)) rfl
    have v7 := hV 7 _ (hl 7 (by decide)) rfl
    have v8 := hV 8 _ (hl 8 (by decide)) rfl
    clear hV hS hl
    simp only [canonL, if_true, v0, v1, v2, v3, v4, v5, v6, v7, v8]
    clear v0 v1 v2 v3 v4 v5 v6 v7 v8
    unfold mdK at K
    rw [put_none]
    exact K X hX.1 hX.2
end Go.Proofs.YtodkehpldlmgaaaDoor
