/- ShaTexts: the law's walk. -/
import Derived.Test.YtkcngkkjlnadiaaDoorD1
namespace Go.Proofs.YtkcngkkjlnadiaaDoor
open Go.RowKit

/-- The load of a whole row, guarded. -/
theorem wpList_load_row_if {P : Program} {ops : Array Oper} {rest : List Oper} {o : Oper} {a : Act} {w : World} {Q : Exit → Act → World → Prop} (hw : Region.wanted o (yielded ops a.tmps) = true) (ty : TypeId) (x : Operand) (ho : o.op = .load ty x)
    (g : Nat) (hx : a.eval x = .pointer (some ⟨g, 0, none⟩)) (t : TypeId) (cs : Array Value) (fr : Nat × Nat) (d : TypeDesc) (hg : w.heap[g]? = some (.cells cs t fr))
    (hu : P.underlying ty = some d) (hd : (match d with | .struct _ | .array _ _ => true | _ => false) = true) (hi : (P.info? ty).map (·.size) = some cs.size)
    (h : wpList P ops Q rest (a.put o.dst (.agg cs)) w) : wpList P ops Q (o :: rest) a w := by
  unfold wpList
  rw [if_pos hw]
  exact .inl (wp_load_row ty x ho g hx t cs fr d hg hu hd hi h)

theorem hexv_hexd (n : Nat) (h : n < 16) : hexv (hexd n) = (UInt8.ofNat n, true) := by
  have key : ∀ i : Fin 16, hexv (hexd i.val) = (UInt8.ofNat i.val, true) := by decide +kernel
  exact key ⟨n, h⟩
theorem okAt_text (d : List UInt8) (i : Nat) (h : i < d.length) : okAt (textL d) i = true := by
  have hx := (d[i]?.getD 0).toNat_lt
  unfold okAt
  rw [(textL_at d i h).1, (textL_at d i h).2, hexv_hexd _ (by omega), hexv_hexd _ (by omega)]
  rfl
theorem parseB_text (d : List UInt8) (i : Nat) (h : i < d.length) : parseB (textL d) i = d[i]?.getD 0 := by
  have hx := (d[i]?.getD 0).toNat_lt
  unfold parseB
  rw [(textL_at d i h).1, (textL_at d i h).2, hexv_hexd _ (by omega), hexv_hexd _ (by omega)]
  generalize d[i]?.getD 0 = x at *
  have key : ∀ n : Fin 256, UInt8.ofNat (n.val / 16) * 16 + UInt8.ofNat (n.val % 16) = UInt8.ofNat n.val := by decide +kernel
  have := key ⟨x.toNat, hx⟩
  simp only [UInt8.ofNat_toNat] at this
  exact this
theorem good_text (d : List UInt8) (h : d.length = 32) : good (textL d) = true :=
  good_all _ (by rw [textL_length, h]) (fun i hi => okAt_text d i (by omega))
/-- There and back. -/
theorem parse_text (d : List UInt8) (h : d.length = 32) : parseD (textL d) = d ∧ parseE (textL d) = 0 := by
  have hg := good_text d h
  refine ⟨?_, by simp [parseE, hg]⟩
  unfold parseD
  rw [if_pos hg]
  apply List.ext_getElem? 
  intro i
  by_cases hi : i < 32
  · rw [List.getElem?_map, List.getElem?_range hi, Option.map_some, parseB_text d i (by omega), List.getElem?_eq_getElem (by omega)]
    rfl
  · rw [List.getElem?_eq_none (by simp; omega), List.getElem?_eq_none (by omega)]

set_option maxRecDepth 100000 in
set_option maxHeartbeats 2000000 in
theorem texts_walk (x s : List UInt8) (hx : x.length = 32) (w : World) (hg0 : Glob w) :
    Calls Tryd.prog 5 #[.agg (byteCells x), .string ⟨s.toArray⟩] w fun e w' => e = .returned (.bool true) ∧ Below w.heap.size w w' := by
  have hgs := hg0.size
  have sx : (byteCells x).size = 32 := by rw [byteCells_size, hx]
  by_cases hs : s.length ≤ 1000
  · have i1 : ¬ (1000 : Int) < (s.length : Int) := by omega
    go_enter Tryd.func5, Tryd.ntmps5
    go_wp2_with (refine wpList_load_row rfl 25 _ rfl w.heap.size rfl 25 (byteCells x) (0, 0) _ (has_new _ _ _ _ rfl) Tryd.underlying25 rfl (by rw [sx]; kernel_rfl) ?_)
    refine named (p := fun X => Calls _ _ _ X _) ?_
    intro W1 hW1
    have hB1 : Below w.heap.size w W1 := by rw [hW1]; exact (Below.refl _ _).alloc (Nat.le_refl _) _
    have bx1 : Has W1 w.heap.size (byteCells x) 25 := by rw [hW1]; exact has_new _ _ _ _ rfl
    clear hW1
    refine (text_any x hx W1).mono ?_
    rintro e W2 ⟨rfl, hB2⟩
    have bx2 := bx1.below hB2 bx1.lt
    have hBa : Below w.heap.size w W2 := hB1.trans (hB2.mono hB1.size)
    clear hB1 hB2 bx1
    go_wp2_with fail
    refine (parse_any (textL x) W2).mono ?_
    rintro e W3 ⟨rfl, hB3⟩
    rw [(parse_text x hx).1, (parse_text x hx).2]
    have bx3 := bx2.below hB3 bx2.lt
    have hBb : Below w.heap.size w W3 := hBa.trans (hB3.mono hBa.size)
    clear hBa hB3 bx2
    have hn3 := has_new W3 (zeroCells 32) 25 W3.heap.size rfl
    go_wp2_with (refine wpList_store_row rfl 25 _ _ rfl W3.heap.size (byteCells x) rfl rfl 25 _ hn3 (by rw [sx]; kernel_rfl) (by rw [sx, zeroCells_size]) (byteCells_one _) ?_)
    refine named (p := fun X => Calls _ _ _ X _) ?_
    intro W4 hW4
    have hB4 : Below W3.heap.size W3 W4 := by rw [hW4]; exact ((Below.refl _ _).alloc (Nat.le_refl _) _).trans ⟨rfl, rfl, rfl, by simp, fun j hj => setRow_other _ _ _ _ (by omega)⟩
    have br4 : Has W4 W3.heap.size (byteCells x) 25 := by rw [hW4]; exact setRow_heap _ _ _ _ _ _ hn3
    have bx4 := bx3.below hB4 bx3.lt
    have hBc : Below w.heap.size w W4 := hBb.trans (hB4.mono hBb.size)
    clear hW4 hn3 bx3 hBb hB4
    generalize W3.heap.size = R3 at *
    refine (parse_any s W4).mono ?_
    rintro e W5 ⟨rfl, hB5⟩
    have bx5 := bx4.below hB5 bx4.lt
    have br5 := br4.below hB5 br4.lt
    have hBd : Below w.heap.size w W5 := hBc.trans (hB5.mono hBc.size)
    clear hBc hB5 bx4 br4
    have hd := parseD_length s
    have EE : Hid (parseE s = 0 ∨ parseE s = 110) := by
      show _ ∨ _; unfold parseE; split <;> simp
    generalize hD : parseD s = D at *
    generalize hE : parseE s = E at *
    have HD : Hid (parseD s = D ∧ parseE s = E) := ⟨hD, hE⟩
    clear hD hE
    have sd : (byteCells D).size = 32 := by rw [byteCells_size, hd]
    have hn5 := has_new W5 (zeroCells 32) 25 W5.heap.size rfl
    go_wp2_with (refine wpList_store_row rfl 25 _ _ rfl W5.heap.size (byteCells D) rfl rfl 25 _ hn5 (by rw [sd]; kernel_rfl) (by rw [sd, zeroCells_size]) (byteCells_one _) ?_)
    refine named (p := fun X => Calls _ _ _ X _) ?_
    intro W6 hW6
    have hB6 : Below W5.heap.size W5 W6 := by rw [hW6]; exact ((Below.refl _ _).alloc (Nat.le_refl _) _).trans ⟨rfl, rfl, rfl, by simp, fun j hj => setRow_other _ _ _ _ (by omega)⟩
    have bd6 : Has W6 W5.heap.size (byteCells D) 25 := by rw [hW6]; exact setRow_heap _ _ _ _ _ _ hn5
    have bx6 := bx5.below hB6 bx5.lt
    have br6 := br5.below hB6 br5.lt
    have hBe : Below w.heap.size w W6 := hBd.trans (hB6.mono hBd.size)
    clear hW6 hn5 bx5 br5 hBd hB6
    generalize W5.heap.size = R5 at *
    refine (refparse_any s W6).mono ?_
    rintro e W7 ⟨rfl, hB7⟩
    rw [HD.out.1, HD.out.2]
    have bx7 := bx6.below hB7 bx6.lt
    have br7 := br6.below hB7 br6.lt
    have bd7 := bd6.below hB7 bd6.lt
    have hBf : Below w.heap.size w W7 := hBe.trans (hB7.mono hBe.size)
    clear hBe hB7 bx6 br6 bd6
    have hn7 := has_new W7 (zeroCells 32) 25 W7.heap.size rfl
    have hB8' : Below W7.heap.size W7 ((W7.alloc (.cells (zeroCells 32) 25)).setRow W7.heap.size (byteCells D)) := ((Below.refl _ _).alloc (Nat.le_refl _) _).trans ⟨rfl, rfl, rfl, by simp, fun j hj => setRow_other _ _ _ _ (by omega)⟩
    have bx8' := bx7.below hB8' bx7.lt
    go_wp2_with (first
      | refine wpList_store_row rfl 25 _ _ rfl W7.heap.size (byteCells D) rfl rfl 25 _ hn7 (by rw [sd]; kernel_rfl) (by rw [sd, zeroCells_size]) (byteCells_one _) ?_
      | refine wpList_load_row rfl 25 _ rfl w.heap.size rfl 25 (byteCells x) (0, 0) _ bx8' Tryd.underlying25 rfl (by rw [sx]; kernel_rfl) ?_)
    refine named (p := fun X => Calls _ _ _ X _) ?_
    intro W8 hW8
    have hB8 : Below W7.heap.size W7 W8 := by rw [hW8]; exact hB8'
    have bx8 : Has W8 w.heap.size (byteCells x) 25 := by rw [hW8]; exact bx8'
    have bq8 : Has W8 W7.heap.size (byteCells D) 25 := by rw [hW8]; exact setRow_heap _ _ _ _ _ _ hn7
    have br8 := br7.below hB8 br7.lt
    have bd8 := bd7.below hB8 bd7.lt
    have hBg : Below w.heap.size w W8 := hBf.trans (hB8.mono hBf.size)
    clear bx8' hB8' hW8 hn7 bx7 br7 bd7 hBf hB8
    generalize W7.heap.size = R7 at *
    refine (reftext_any x hx W8).mono ?_
    rintro e W9 ⟨rfl, hB9⟩
    have bx9 := bx8.below hB9 bx8.lt
    have br9 := br8.below hB9 br8.lt
    have bd9 := bd8.below hB9 bd8.lt
    have bq9 := bq8.below hB9 bq8.lt
    have hBh : Below w.heap.size w W9 := hBg.trans (hB9.mono hBg.size)
    clear hBg hB9 bx8 br8 bd8 bq8
    have hg9 := hg0.below hBh hgs
    have q1 : ∀ w, (Op.equalIn 10000 25 (.agg (byteCells x)) (.agg (byteCells x))).run Tryd.prog w = .ok true w := fun w => by
      have := eq_dig x x hx hx w; rwa [beq_self_eq_true] at this
    have q2 : ∀ w, (Op.equalIn 10000 25 (.agg (byteCells D)) (.agg (byteCells D))).run Tryd.prog w = .ok true w := fun w => by
      have := eq_dig D D hd hd w; rwa [beq_self_eq_true] at this
    go_wp2_with (first
      | (go_at_call 23; refine (num_any _ _).mono ?_; rintro e w' ⟨rfl, hw⟩; obtain rfl := hw.symm)
      | refine wpList_load_row_if (by rfl) 25 _ rfl R3 rfl 25 (byteCells x) (0, 0) _ br9 Tryd.underlying25 rfl (by rw [sx]; kernel_rfl) ?_
      | refine wpList_load_row_if (by rfl) 25 _ rfl w.heap.size rfl 25 (byteCells x) (0, 0) _ bx9 Tryd.underlying25 rfl (by rw [sx]; kernel_rfl) ?_
      | refine wpList_load_row_if (by rfl) 25 _ rfl R5 rfl 25 (byteCells D) (0, 0) _ bd9 Tryd.underlying25 rfl (by rw [sd]; kernel_rfl) ?_
      | refine wpList_load_row_if (by rfl) 25 _ rfl R7 rfl 25 (byteCells D) (0, 0) _ bq9 Tryd.underlying25 rfl (by rw [sd]; kernel_rfl) ?_)
    refine (works_any W9 hg9).mono ?_
    rintro e Wa ⟨rfl, hBi⟩
    go_wp2_with fail
    go_ret
    exact ⟨rfl, hBh.trans (hBi.mono hBh.size)⟩
  · have i1 : (1000 : Int) < (s.length : Int) := by omega
    go_enter Tryd.func5, Tryd.ntmps5
    go_wp2_with fail
    refine named (p := fun X => Calls _ _ _ X _) ?_
    intro W1 hW1
    have hB1 : Below w.heap.size w W1 := by rw [hW1]; exact (Below.refl _ _).alloc (Nat.le_refl _) _
    clear hW1
    refine (works_any W1 (hg0.below hB1 hgs)).mono ?_
    rintro e Wa ⟨rfl, hBi⟩
    go_wp2_with fail
    go_ret
    exact ⟨rfl, hB1.trans (hBi.mono hB1.size)⟩
end Go.Proofs.YtkcngkkjlnadiaaDoor
