/- Text: an instruction as a text, the program's. -/
import Derived.Test.YtoalchlokcphkaaDoorX4
namespace Go.Proofs.YtoalchlokcphkaaDoor
open Go.RowKit

def regL (n : Int) : List UInt8 := 114 :: Lib.decDigits n.toNat
def sgnL (n : Int) : List UInt8 := if n < 0 then Lib.itoa n else 43 :: Lib.itoa n
/-- The parts of an instruction's text, and the text. -/
def partsT (d s m o : Bool) (i : Ins) : List (List UInt8) := (if d then [regL i.dst] else []) ++ ((if s then [regL i.src] else []) ++ ((if m then [Lib.decDigits i.imm] else []) ++ (if o then [sgnL i.off] else [])))
def textT (name : List UInt8) : List (List UInt8) → List UInt8
  | [] => name
  | x :: r => name ++ 32 :: Lib.join (x :: r) [44, 32]
theorem regL_len (n : Int) (h0 : 0 ≤ n) (h1 : n ≤ 9) : (regL n).length ≤ 22 := by
  have h := Lib.itoa_length_le n (by omega) (by omega)
  unfold Lib.itoa at h
  rw [if_neg (by omega)] at h
  unfold regL; simp; omega
theorem sgnL_len (n : Int) (h0 : -32768 ≤ n) (h1 : n ≤ 32767) : (sgnL n).length ≤ 22 := by
  have h := Lib.itoa_length_le n (by omega) (by omega)
  unfold sgnL
  split
  · omega
  · simp; omega
theorem dec_len (n : Nat) (h : n < 4294967296) : (Lib.decDigits n).length ≤ 21 := by
  have h := Lib.itoa_length_le n (by omega) (by omega)
  rwa [Lib.itoa_nonneg] at h
theorem join_len (xs : List (List UInt8)) (h : ∀ x ∈ xs, x.length ≤ 22) (hn : xs.length ≤ 4) : (Lib.join xs [44, 32]).length ≤ 1000 := by
  match xs, hn with
  | [], _ => simp [Lib.join]
  | [a], _ => have := h a (by simp); rw [Lib.join_one]; omega
  | [a, b], _ => have := h a (by simp); have := h b (by simp); rw [Lib.join_length]; simp [Lib.lens]; omega
  | [a, b, c], _ => have := h a (by simp); have := h b (by simp); have := h c (by simp); rw [Lib.join_length]; simp [Lib.lens]; omega
  | [a, b, c, d], _ => have := h a (by simp); have := h b (by simp); have := h c (by simp); have := h d (by simp); rw [Lib.join_length]; simp [Lib.lens]; omega
theorem map_str (xs : List (List UInt8)) : (xs.map str).map (fun x => x.data.toList) = xs := by
  induction xs with
  | nil => rfl
  | cons a l ih => rw [List.map_cons, List.map_cons, ih]
/-- What Join makes of the row. -/
theorem join_of {w W : World} {bx : Array Value} {v : Value} {xs : List (List UInt8)} (h : TS w W bx v xs) (h0 : 0 < xs.length) (hl : ∀ x ∈ xs, x.length ≤ 22) (hn : xs.length ≤ 4) :
    Calls Tryd.prog 34 #[v, .string ⟨#[44, 32]⟩] W fun e w' => e = .returned (.string (str (Lib.join xs [44, 32]))) ∧ Below W.heap.size W w' := by
  obtain ⟨a, c, rfl, h2⟩ := row_open h.own
  obtain ⟨g, rfl, hc⟩ := h2 h0
  have hcap : xs.length ≤ c := by
    rcases h.own.2 with ⟨e, _⟩ | ⟨g', cap, cur, e, _, _, hh, _⟩
    · cases e
    · simp only [Value.slice.injEq] at e; omega
  have hlt : g < W.heap.size := (h.blk (g := g) rfl).2.choose_spec.lt
  have hmap := map_str xs
  have := sh_strings_Join g 0 c (xs.map str) ⟨#[44, 32]⟩ W (fun j x hx => by
    rw [Nat.zero_add]
    refine hc j _ ?_
    rw [List.getElem?_map] at hx ⊢
    cases hj : xs[j]? with
    | none => rw [hj] at hx; simp at hx
    | some y => rw [hj] at hx; simp at hx; rw [← hx]; rfl) hlt (by rw [List.length_map]; omega) (by rw [List.length_map]; exact hcap) (by rw [hmap]; have := join_len xs hl hn; show (Lib.join xs [44, 32]).length ≤ _; omega)
  rw [hmap, List.length_map] at this
  exact this
set_option maxRecDepth 10000 in
set_option maxHeartbeats 2000000 in
theorem text_dm (i : Ins) (n : Nat) (hop : i.op = n) (hn : n < 25) (w : World) (hG : Glob w) (hT : Tab w) (hm : i.may = true) (hu : i.imm < 4294967296) (h1 : hasB (usesN n) 1 = true) (h2 : hasB (usesN n) 2 = false) (h3 : hasB (usesN n) 28 = true) (h4 : hasB (usesN n) 96 = false) :
    Calls Tryd.prog 19 #[.agg i.cells.toArray] w fun e w' => e = .returned (.tuple #[.string (str (textT (nameL n) (partsT true false true false i))), .int .i64 0]) ∧ Below w.heap.size w w' := by
  have _ := hu
  obtain ⟨⟨o1, o2⟩, ⟨d1, d2⟩, ⟨s1, s2⟩, ⟨f1, f2⟩⟩ := may_bounds hm
  have hu9 := hG.uses n hn
  have hn9 := hG.name n hn
  have hz := hG.size
  have hz1 := hT.size
  have i1 : (n : Int) < 25 := by omega
  have hnl : Hid ((nameL n).length ≤ 100) := by
    have key : ∀ j : Fin 25, (nameL j.val).length ≤ 100 := by decide +kernel
    exact key ⟨n, hn⟩
  generalize usesN n = u at *
  generalize nameL n = nm at *
  obtain ⟨W0, hW0⟩ : ∃ W0, W0 = w.alloc (.cells #[.int .i64 n, .int .i64 i.dst, .int .i64 i.src, .int .i64 i.off, .int .u32 i.imm] 43) := ⟨_, rfl⟩
  have hB0 : Below w.heap.size w W0 := by rw [hW0]; exact (Below.refl _ _).alloc (Nat.le_refl _) _
  have hmy := may_any i.op i.dst i.src i.off i.imm W0 (hG.below hB0 hz)
  rw [show mayB i.op i.dst i.src i.off i.imm = true from hm, hop] at hmy
  have hTS0 : TS w W0 #[.int .i64 n, .int .i64 i.dst, .int .i64 i.src, .int .i64 i.off, .int .u32 i.imm] (.slice none 0 0) [] := ⟨by rw [hW0]; exact has_new _ _ _ _ rfl, World.ownsRow_nil _ _ _ _, hB0⟩
  have hcells : i.cells.toArray = #[.int .i64 n, .int .i64 i.dst, .int .i64 i.src, .int .i64 i.off, .int .u32 i.imm] := by rw [← hop]; rfl
  rw [hcells]
  have hTabB : Hid (∀ W, Below w.heap.size w W → Tab W) := fun W hB => hT.below hB hz1
  have hcu : Hid (∀ W, Below w.heap.size w W → W.cell? ⟨0, n * 2 + 1, none⟩ = some (.int .i64 u) ∧ W.cell? ⟨0, n * 2, none⟩ = some (.string (str nm))) := fun W hB => ⟨(hB.cell (p := ⟨0, n * 2 + 1, none⟩) hz).trans hu9, (hB.cell (p := ⟨0, n * 2, none⟩) hz).trans hn9⟩
  obtain ⟨bx, hbx⟩ : ∃ bx : Array Value, bx = #[.int .i64 n, .int .i64 i.dst, .int .i64 i.src, .int .i64 i.off, .int .u32 i.imm] := ⟨_, rfl⟩
  have HBX : Hid (bx = #[.int .i64 n, .int .i64 i.dst, .int .i64 i.src, .int .i64 i.off, .int .u32 i.imm]) := hbx
  rw [← hbx] at hTS0
  clear hcells hu9 hn9 hm hop hbx
  go_enter Tryd.func19, Tryd.ntmps19
  go_wp2_with fail
  rw [← hW0]
  clear hW0
  refine hmy.mono ?_
  clear hmy
  rintro e W1 ⟨rfl, hB1⟩
  have hTS := hTS0.below hB1
  clear hTS0 hB1
  have hbx' := hTS.box
  rw [HBX.out] at hbx'
  have y0 := hbx'.cell 0
  have y1 := hbx'.cell 1
  have y2 := hbx'.cell 2
  have y3 := hbx'.cell 3
  have y4 := hbx'.cell 4
  have yu := (hcu.out W1 hTS.bel).1
  have yn := (hcu.out W1 hTS.bel).2
  have hzW := hTS.box.lt
  go_wp2_with (first | (go_at_call 30; refine (has_any _ _ _).mono ?_; rintro e w' ⟨rfl, hw⟩; obtain rfl := hw))
  clear y0 y1 y2 y3 y4 yu yn hbx' hzW
  refine (register_any i.dst d1 d2 W1).mono ?_
  rintro e Wc0 ⟨rfl, hw⟩
  obtain rfl := hw.symm
  clear hw
  rw [show str (114 :: Lib.decDigits i.dst.toNat) = str (regL i.dst) from rfl]
  have hB0 : Below W1.heap.size W1 (W1.alloc (.cells #[sv (regL i.dst)] 9)) := (Below.refl _ _).alloc (Nat.le_refl _) _
  have hTx := hTS.below hB0
  have hHx : Has (W1.alloc (.cells #[sv (regL i.dst)] 9)) W1.heap.size #[sv (regL i.dst)] 9 := has_new _ _ _ _ rfl
  clear hB0 hTS
  go_wp2_with (refine wpList_append_text rfl _ _ rfl W1.heap.size (regL i.dst) rfl rfl hTx hHx (by simp) ?_; intro v0 Wa0 hTS; clear hTx hHx; refine Hid.out ?_)
  refine Lib.hid ?_
  obtain ⟨a0, c0, hv0⟩ := hTS.slice
  subst hv0
  have hbx' := hTS.box
  rw [HBX.out] at hbx'
  have y0 := hbx'.cell 0
  have y1 := hbx'.cell 1
  have y2 := hbx'.cell 2
  have y3 := hbx'.cell 3
  have y4 := hbx'.cell 4
  have yu := (hcu.out Wa0 hTS.bel).1
  have yn := (hcu.out Wa0 hTS.bel).2
  have hzW := hTS.box.lt
  go_wp2_with (first | (go_at_call 30; refine (has_any _ _ _).mono ?_; rintro e w' ⟨rfl, hw⟩; obtain rfl := hw))
  clear y0 y1 y2 y3 y4 yu yn hbx' hzW
  refine (fmt_any i.imm (by omega) Wa0 (hTabB.out _ hTS.bel)).mono ?_
  rintro e Wc1 ⟨rfl, hBx⟩
  replace hTS := hTS.below hBx
  clear hBx
  have hB1 : Below Wc1.heap.size Wc1 (Wc1.alloc (.cells #[sv (Lib.decDigits i.imm)] 9)) := (Below.refl _ _).alloc (Nat.le_refl _) _
  have hTx := hTS.below hB1
  have hHx : Has (Wc1.alloc (.cells #[sv (Lib.decDigits i.imm)] 9)) Wc1.heap.size #[sv (Lib.decDigits i.imm)] 9 := has_new _ _ _ _ rfl
  clear hB1 hTS
  go_wp2_with (refine wpList_append_text rfl _ _ rfl Wc1.heap.size (Lib.decDigits i.imm) rfl rfl hTx hHx (by simp) ?_; intro v1 Wa1 hTS; clear hTx hHx; refine Hid.out ?_)
  refine Lib.hid ?_
  obtain ⟨a1, c1, hv1⟩ := hTS.slice
  subst hv1
  have hbx' := hTS.box
  rw [HBX.out] at hbx'
  have y0 := hbx'.cell 0
  have y1 := hbx'.cell 1
  have y2 := hbx'.cell 2
  have y3 := hbx'.cell 3
  have y4 := hbx'.cell 4
  have yu := (hcu.out Wa1 hTS.bel).1
  have yn := (hcu.out Wa1 hTS.bel).2
  have hzW := hTS.box.lt
  have hjn := join_of hTS (by simp) (by intro x hx; simp at hx; rcases hx with rfl | rfl <;> first | exact regL_len _ (by assumption) (by assumption) | exact sgnL_len _ (by assumption) (by assumption) | (have := dec_len i.imm hu; omega)) (by simp)
  have hjl : Hid ((Lib.join ([] ++ [regL i.dst] ++ [Lib.decDigits i.imm]) [44, 32]).length ≤ 1000) := join_len _ (by intro x hx; simp at hx; rcases hx with rfl | rfl <;> first | exact regL_len _ (by assumption) (by assumption) | exact sgnL_len _ (by assumption) (by assumption) | (have := dec_len i.imm hu; omega)) (by simp)
  go_wp2_with (first | (go_at_call 30; refine (has_any _ _ _).mono ?_; rintro e w' ⟨rfl, hw⟩; obtain rfl := hw) | refine wpList_cat rfl _ _ rfl nm [32] rfl rfl (by have := hnl.out; simp; omega) ?_ | (go_at_call 34; refine hjn.mono ?_; rintro e We ⟨rfl, hBe⟩) | refine wpList_cat rfl _ _ rfl (nm ++ [32]) _ rfl rfl (by have := hnl.out; have := hjl.out; simp at this ⊢; omega) ?_)
  go_ret2
  exact ⟨rfl, hTS.bel.trans (hBe.mono hTS.bel.size)⟩
set_option maxRecDepth 10000 in
set_option maxHeartbeats 2000000 in
theorem text_ds (i : Ins) (n : Nat) (hop : i.op = n) (hn : n < 25) (w : World) (hG : Glob w) (hT : Tab w) (hm : i.may = true) (hu : i.imm < 4294967296) (h1 : hasB (usesN n) 1 = true) (h2 : hasB (usesN n) 2 = true) (h3 : hasB (usesN n) 28 = false) (h4 : hasB (usesN n) 96 = false) :
    Calls Tryd.prog 19 #[.agg i.cells.toArray] w fun e w' => e = .returned (.tuple #[.string (str (textT (nameL n) (partsT true true false false i))), .int .i64 0]) ∧ Below w.heap.size w w' := by
  have _ := hu
  obtain ⟨⟨o1, o2⟩, ⟨d1, d2⟩, ⟨s1, s2⟩, ⟨f1, f2⟩⟩ := may_bounds hm
  have hu9 := hG.uses n hn
  have hn9 := hG.name n hn
  have hz := hG.size
  have hz1 := hT.size
  have i1 : (n : Int) < 25 := by omega
  have hnl : Hid ((nameL n).length ≤ 100) := by
    have key : ∀ j : Fin 25, (nameL j.val).length ≤ 100 := by decide +kernel
    exact key ⟨n, hn⟩
  generalize usesN n = u at *
  generalize nameL n = nm at *
  obtain ⟨W0, hW0⟩ : ∃ W0, W0 = w.alloc (.cells #[.int .i64 n, .int .i64 i.dst, .int .i64 i.src, .int .i64 i.off, .int .u32 i.imm] 43) := ⟨_, rfl⟩
  have hB0 : Below w.heap.size w W0 := by rw [hW0]; exact (Below.refl _ _).alloc (Nat.le_refl _) _
  have hmy := may_any i.op i.dst i.src i.off i.imm W0 (hG.below hB0 hz)
  rw [show mayB i.op i.dst i.src i.off i.imm = true from hm, hop] at hmy
  have hTS0 : TS w W0 #[.int .i64 n, .int .i64 i.dst, .int .i64 i.src, .int .i64 i.off, .int .u32 i.imm] (.slice none 0 0) [] := ⟨by rw [hW0]; exact has_new _ _ _ _ rfl, World.ownsRow_nil _ _ _ _, hB0⟩
  have hcells : i.cells.toArray = #[.int .i64 n, .int .i64 i.dst, .int .i64 i.src, .int .i64 i.off, .int .u32 i.imm] := by rw [← hop]; rfl
  rw [hcells]
  have hTabB : Hid (∀ W, Below w.heap.size w W → Tab W) := fun W hB => hT.below hB hz1
  have hcu : Hid (∀ W, Below w.heap.size w W → W.cell? ⟨0, n * 2 + 1, none⟩ = some (.int .i64 u) ∧ W.cell? ⟨0, n * 2, none⟩ = some (.string (str nm))) := fun W hB => ⟨(hB.cell (p := ⟨0, n * 2 + 1, none⟩) hz).trans hu9, (hB.cell (p := ⟨0, n * 2, none⟩) hz).trans hn9⟩
  obtain ⟨bx, hbx⟩ : ∃ bx : Array Value, bx = #[.int .i64 n, .int .i64 i.dst, .int .i64 i.src, .int .i64 i.off, .int .u32 i.imm] := ⟨_, rfl⟩
  have HBX : Hid (bx = #[.int .i64 n, .int .i64 i.dst, .int .i64 i.src, .int .i64 i.off, .int .u32 i.imm]) := hbx
  rw [← hbx] at hTS0
  clear hcells hu9 hn9 hm hop hbx
  go_enter Tryd.func19, Tryd.ntmps19
  go_wp2_with fail
  rw [← hW0]
  clear hW0
  refine hmy.mono ?_
  clear hmy
  rintro e W1 ⟨rfl, hB1⟩
  have hTS := hTS0.below hB1
  clear hTS0 hB1
  have hbx' := hTS.box
  rw [HBX.out] at hbx'
  have y0 := hbx'.cell 0
  have y1 := hbx'.cell 1
  have y2 := hbx'.cell 2
  have y3 := hbx'.cell 3
  have y4 := hbx'.cell 4
  have yu := (hcu.out W1 hTS.bel).1
  have yn := (hcu.out W1 hTS.bel).2
  have hzW := hTS.box.lt
  go_wp2_with (first | (go_at_call 30; refine (has_any _ _ _).mono ?_; rintro e w' ⟨rfl, hw⟩; obtain rfl := hw))
  clear y0 y1 y2 y3 y4 yu yn hbx' hzW
  refine (register_any i.dst d1 d2 W1).mono ?_
  rintro e Wc0 ⟨rfl, hw⟩
  obtain rfl := hw.symm
  clear hw
  rw [show str (114 :: Lib.decDigits i.dst.toNat) = str (regL i.dst) from rfl]
  have hB0 : Below W1.heap.size W1 (W1.alloc (.cells #[sv (regL i.dst)] 9)) := (Below.refl _ _).alloc (Nat.le_refl _) _
  have hTx := hTS.below hB0
  have hHx : Has (W1.alloc (.cells #[sv (regL i.dst)] 9)) W1.heap.size #[sv (regL i.dst)] 9 := has_new _ _ _ _ rfl
  clear hB0 hTS
  go_wp2_with (refine wpList_append_text rfl _ _ rfl W1.heap.size (regL i.dst) rfl rfl hTx hHx (by simp) ?_; intro v0 Wa0 hTS; clear hTx hHx; refine Hid.out ?_)
  refine Lib.hid ?_
  obtain ⟨a0, c0, hv0⟩ := hTS.slice
  subst hv0
  have hbx' := hTS.box
  rw [HBX.out] at hbx'
  have y0 := hbx'.cell 0
  have y1 := hbx'.cell 1
  have y2 := hbx'.cell 2
  have y3 := hbx'.cell 3
  have y4 := hbx'.cell 4
  have yu := (hcu.out Wa0 hTS.bel).1
  have yn := (hcu.out Wa0 hTS.bel).2
  have hzW := hTS.box.lt
  go_wp2_with (first | (go_at_call 30; refine (has_any _ _ _).mono ?_; rintro e w' ⟨rfl, hw⟩; obtain rfl := hw))
  clear y0 y1 y2 y3 y4 yu yn hbx' hzW
  refine (register_any i.src s1 s2 Wa0).mono ?_
  rintro e Wc1 ⟨rfl, hw⟩
  obtain rfl := hw.symm
  clear hw
  rw [show str (114 :: Lib.decDigits i.src.toNat) = str (regL i.src) from rfl]
  have hB1 : Below Wa0.heap.size Wa0 (Wa0.alloc (.cells #[sv (regL i.src)] 9)) := (Below.refl _ _).alloc (Nat.le_refl _) _
  have hTx := hTS.below hB1
  have hHx : Has (Wa0.alloc (.cells #[sv (regL i.src)] 9)) Wa0.heap.size #[sv (regL i.src)] 9 := has_new _ _ _ _ rfl
  clear hB1 hTS
  go_wp2_with (refine wpList_append_text rfl _ _ rfl Wa0.heap.size (regL i.src) rfl rfl hTx hHx (by simp) ?_; intro v1 Wa1 hTS; clear hTx hHx; refine Hid.out ?_)
  refine Lib.hid ?_
  obtain ⟨a1, c1, hv1⟩ := hTS.slice
  subst hv1
  have hbx' := hTS.box
  rw [HBX.out] at hbx'
  have y0 := hbx'.cell 0
  have y1 := hbx'.cell 1
  have y2 := hbx'.cell 2
  have y3 := hbx'.cell 3
  have y4 := hbx'.cell 4
  have yu := (hcu.out Wa1 hTS.bel).1
  have yn := (hcu.out Wa1 hTS.bel).2
  have hzW := hTS.box.lt
  have hjn := join_of hTS (by simp) (by intro x hx; simp at hx; rcases hx with rfl | rfl <;> first | exact regL_len _ (by assumption) (by assumption) | exact sgnL_len _ (by assumption) (by assumption) | (have := dec_len i.imm hu; omega)) (by simp)
  have hjl : Hid ((Lib.join ([] ++ [regL i.dst] ++ [regL i.src]) [44, 32]).length ≤ 1000) := join_len _ (by intro x hx; simp at hx; rcases hx with rfl | rfl <;> first | exact regL_len _ (by assumption) (by assumption) | exact sgnL_len _ (by assumption) (by assumption) | (have := dec_len i.imm hu; omega)) (by simp)
  go_wp2_with (first | (go_at_call 30; refine (has_any _ _ _).mono ?_; rintro e w' ⟨rfl, hw⟩; obtain rfl := hw) | refine wpList_cat rfl _ _ rfl nm [32] rfl rfl (by have := hnl.out; simp; omega) ?_ | (go_at_call 34; refine hjn.mono ?_; rintro e We ⟨rfl, hBe⟩) | refine wpList_cat rfl _ _ rfl (nm ++ [32]) _ rfl rfl (by have := hnl.out; have := hjl.out; simp at this ⊢; omega) ?_)
  go_ret2
  exact ⟨rfl, hTS.bel.trans (hBe.mono hTS.bel.size)⟩
set_option maxRecDepth 10000 in
set_option maxHeartbeats 2000000 in
theorem text_dso (i : Ins) (n : Nat) (hop : i.op = n) (hn : n < 25) (w : World) (hG : Glob w) (hT : Tab w) (hm : i.may = true) (hu : i.imm < 4294967296) (h1 : hasB (usesN n) 1 = true) (h2 : hasB (usesN n) 2 = true) (h3 : hasB (usesN n) 28 = false) (h4 : hasB (usesN n) 96 = true) :
    Calls Tryd.prog 19 #[.agg i.cells.toArray] w fun e w' => e = .returned (.tuple #[.string (str (textT (nameL n) (partsT true true false true i))), .int .i64 0]) ∧ Below w.heap.size w w' := by
  have _ := hu
  obtain ⟨⟨o1, o2⟩, ⟨d1, d2⟩, ⟨s1, s2⟩, ⟨f1, f2⟩⟩ := may_bounds hm
  have hu9 := hG.uses n hn
  have hn9 := hG.name n hn
  have hz := hG.size
  have hz1 := hT.size
  have i1 : (n : Int) < 25 := by omega
  have hnl : Hid ((nameL n).length ≤ 100) := by
    have key : ∀ j : Fin 25, (nameL j.val).length ≤ 100 := by decide +kernel
    exact key ⟨n, hn⟩
  generalize usesN n = u at *
  generalize nameL n = nm at *
  obtain ⟨W0, hW0⟩ : ∃ W0, W0 = w.alloc (.cells #[.int .i64 n, .int .i64 i.dst, .int .i64 i.src, .int .i64 i.off, .int .u32 i.imm] 43) := ⟨_, rfl⟩
  have hB0 : Below w.heap.size w W0 := by rw [hW0]; exact (Below.refl _ _).alloc (Nat.le_refl _) _
  have hmy := may_any i.op i.dst i.src i.off i.imm W0 (hG.below hB0 hz)
  rw [show mayB i.op i.dst i.src i.off i.imm = true from hm, hop] at hmy
  have hTS0 : TS w W0 #[.int .i64 n, .int .i64 i.dst, .int .i64 i.src, .int .i64 i.off, .int .u32 i.imm] (.slice none 0 0) [] := ⟨by rw [hW0]; exact has_new _ _ _ _ rfl, World.ownsRow_nil _ _ _ _, hB0⟩
  have hcells : i.cells.toArray = #[.int .i64 n, .int .i64 i.dst, .int .i64 i.src, .int .i64 i.off, .int .u32 i.imm] := by rw [← hop]; rfl
  rw [hcells]
  have hTabB : Hid (∀ W, Below w.heap.size w W → Tab W) := fun W hB => hT.below hB hz1
  have hcu : Hid (∀ W, Below w.heap.size w W → W.cell? ⟨0, n * 2 + 1, none⟩ = some (.int .i64 u) ∧ W.cell? ⟨0, n * 2, none⟩ = some (.string (str nm))) := fun W hB => ⟨(hB.cell (p := ⟨0, n * 2 + 1, none⟩) hz).trans hu9, (hB.cell (p := ⟨0, n * 2, none⟩) hz).trans hn9⟩
  obtain ⟨bx, hbx⟩ : ∃ bx : Array Value, bx = #[.int .i64 n, .int .i64 i.dst, .int .i64 i.src, .int .i64 i.off, .int .u32 i.imm] := ⟨_, rfl⟩
  have HBX : Hid (bx = #[.int .i64 n, .int .i64 i.dst, .int .i64 i.src, .int .i64 i.off, .int .u32 i.imm]) := hbx
  rw [← hbx] at hTS0
  clear hcells hu9 hn9 hm hop hbx
  go_enter Tryd.func19, Tryd.ntmps19
  go_wp2_with fail
  rw [← hW0]
  clear hW0
  refine hmy.mono ?_
  clear hmy
  rintro e W1 ⟨rfl, hB1⟩
  have hTS := hTS0.below hB1
  clear hTS0 hB1
  have hbx' := hTS.box
  rw [HBX.out] at hbx'
  have y0 := hbx'.cell 0
  have y1 := hbx'.cell 1
  have y2 := hbx'.cell 2
  have y3 := hbx'.cell 3
  have y4 := hbx'.cell 4
  have yu := (hcu.out W1 hTS.bel).1
  have yn := (hcu.out W1 hTS.bel).2
  have hzW := hTS.box.lt
  go_wp2_with (first | (go_at_call 30; refine (has_any _ _ _).mono ?_; rintro e w' ⟨rfl, hw⟩; obtain rfl := hw))
  clear y0 y1 y2 y3 y4 yu yn hbx' hzW
  refine (register_any i.dst d1 d2 W1).mono ?_
  rintro e Wc0 ⟨rfl, hw⟩
  obtain rfl := hw.symm
  clear hw
  rw [show str (114 :: Lib.decDigits i.dst.toNat) = str (regL i.dst) from rfl]
  have hB0 : Below W1.heap.size W1 (W1.alloc (.cells #[sv (regL i.dst)] 9)) := (Below.refl _ _).alloc (Nat.le_refl _) _
  have hTx := hTS.below hB0
  have hHx : Has (W1.alloc (.cells #[sv (regL i.dst)] 9)) W1.heap.size #[sv (regL i.dst)] 9 := has_new _ _ _ _ rfl
  clear hB0 hTS
  go_wp2_with (refine wpList_append_text rfl _ _ rfl W1.heap.size (regL i.dst) rfl rfl hTx hHx (by simp) ?_; intro v0 Wa0 hTS; clear hTx hHx; refine Hid.out ?_)
  refine Lib.hid ?_
  obtain ⟨a0, c0, hv0⟩ := hTS.slice
  subst hv0
  have hbx' := hTS.box
  rw [HBX.out] at hbx'
  have y0 := hbx'.cell 0
  have y1 := hbx'.cell 1
  have y2 := hbx'.cell 2
  have y3 := hbx'.cell 3
  have y4 := hbx'.cell 4
  have yu := (hcu.out Wa0 hTS.bel).1
  have yn := (hcu.out Wa0 hTS.bel).2
  have hzW := hTS.box.lt
  go_wp2_with (first | (go_at_call 30; refine (has_any _ _ _).mono ?_; rintro e w' ⟨rfl, hw⟩; obtain rfl := hw))
  clear y0 y1 y2 y3 y4 yu yn hbx' hzW
  refine (register_any i.src s1 s2 Wa0).mono ?_
  rintro e Wc1 ⟨rfl, hw⟩
  obtain rfl := hw.symm
  clear hw
  rw [show str (114 :: Lib.decDigits i.src.toNat) = str (regL i.src) from rfl]
  have hB1 : Below Wa0.heap.size Wa0 (Wa0.alloc (.cells #[sv (regL i.src)] 9)) := (Below.refl _ _).alloc (Nat.le_refl _) _
  have hTx := hTS.below hB1
  have hHx : Has (Wa0.alloc (.cells #[sv (regL i.src)] 9)) Wa0.heap.size #[sv (regL i.src)] 9 := has_new _ _ _ _ rfl
  clear hB1 hTS
  go_wp2_with (refine wpList_append_text rfl _ _ rfl Wa0.heap.size (regL i.src) rfl rfl hTx hHx (by simp) ?_; intro v1 Wa1 hTS; clear hTx hHx; refine Hid.out ?_)
  refine Lib.hid ?_
  obtain ⟨a1, c1, hv1⟩ := hTS.slice
  subst hv1
  have hbx' := hTS.box
  rw [HBX.out] at hbx'
  have y0 := hbx'.cell 0
  have y1 := hbx'.cell 1
  have y2 := hbx'.cell 2
  have y3 := hbx'.cell 3
  have y4 := hbx'.cell 4
  have yu := (hcu.out Wa1 hTS.bel).1
  have yn := (hcu.out Wa1 hTS.bel).2
  have hzW := hTS.box.lt
  go_wp2_with (first | (go_at_call 30; refine (has_any _ _ _).mono ?_; rintro e w' ⟨rfl, hw⟩; obtain rfl := hw))
  clear y0 y1 y2 y3 y4 yu yn hbx' hzW
  refine (signed_any i.off f1 f2 Wa1 (hTabB.out _ hTS.bel)).mono ?_
  rintro e Wc2 ⟨rfl, hBx⟩
  replace hTS := hTS.below hBx
  clear hBx
  rw [show str (if i.off < 0 then Lib.itoa i.off else 43 :: Lib.itoa i.off) = str (sgnL i.off) from rfl]
  have hB2 : Below Wc2.heap.size Wc2 (Wc2.alloc (.cells #[sv (sgnL i.off)] 9)) := (Below.refl _ _).alloc (Nat.le_refl _) _
  have hTx := hTS.below hB2
  have hHx : Has (Wc2.alloc (.cells #[sv (sgnL i.off)] 9)) Wc2.heap.size #[sv (sgnL i.off)] 9 := has_new _ _ _ _ rfl
  clear hB2 hTS
  go_wp2_with (refine wpList_append_text rfl _ _ rfl Wc2.heap.size (sgnL i.off) rfl rfl hTx hHx (by simp) ?_; intro v2 Wa2 hTS; clear hTx hHx; refine Hid.out ?_)
  refine Lib.hid ?_
  obtain ⟨a2, c2, hv2⟩ := hTS.slice
  subst hv2
  have hbx' := hTS.box
  rw [HBX.out] at hbx'
  have y0 := hbx'.cell 0
  have y1 := hbx'.cell 1
  have y2 := hbx'.cell 2
  have y3 := hbx'.cell 3
  have y4 := hbx'.cell 4
  have yu := (hcu.out Wa2 hTS.bel).1
  have yn := (hcu.out Wa2 hTS.bel).2
  have hzW := hTS.box.lt
  have hjn := join_of hTS (by simp) (by intro x hx; simp at hx; rcases hx with rfl | rfl | rfl <;> first | exact regL_len _ (by assumption) (by assumption) | exact sgnL_len _ (by assumption) (by assumption) | (have := dec_len i.imm hu; omega)) (by simp)
  have hjl : Hid ((Lib.join ([] ++ [regL i.dst] ++ [regL i.src] ++ [sgnL i.off]) [44, 32]).length ≤ 1000) := join_len _ (by intro x hx; simp at hx; rcases hx with rfl | rfl | rfl <;> first | exact regL_len _ (by assumption) (by assumption) | exact sgnL_len _ (by assumption) (by assumption) | (have := dec_len i.imm hu; omega)) (by simp)
  go_wp2_with (first | (go_at_call 30; refine (has_any _ _ _).mono ?_; rintro e w' ⟨rfl, hw⟩; obtain rfl := hw) | refine wpList_cat rfl _ _ rfl nm [32] rfl rfl (by have := hnl.out; simp; omega) ?_ | (go_at_call 34; refine hjn.mono ?_; rintro e We ⟨rfl, hBe⟩) | refine wpList_cat rfl _ _ rfl (nm ++ [32]) _ rfl rfl (by have := hnl.out; have := hjl.out; simp at this ⊢; omega) ?_)
  go_ret2
  exact ⟨rfl, hTS.bel.trans (hBe.mono hTS.bel.size)⟩
set_option maxRecDepth 10000 in
set_option maxHeartbeats 2000000 in
theorem text_o (i : Ins) (n : Nat) (hop : i.op = n) (hn : n < 25) (w : World) (hG : Glob w) (hT : Tab w) (hm : i.may = true) (hu : i.imm < 4294967296) (h1 : hasB (usesN n) 1 = false) (h2 : hasB (usesN n) 2 = false) (h3 : hasB (usesN n) 28 = false) (h4 : hasB (usesN n) 96 = true) :
    Calls Tryd.prog 19 #[.agg i.cells.toArray] w fun e w' => e = .returned (.tuple #[.string (str (textT (nameL n) (partsT false false false true i))), .int .i64 0]) ∧ Below w.heap.size w w' := by
  have _ := hu
  obtain ⟨⟨o1, o2⟩, ⟨d1, d2⟩, ⟨s1, s2⟩, ⟨f1, f2⟩⟩ := may_bounds hm
  have hu9 := hG.uses n hn
  have hn9 := hG.name n hn
  have hz := hG.size
  have hz1 := hT.size
  have i1 : (n : Int) < 25 := by omega
  have hnl : Hid ((nameL n).length ≤ 100) := by
    have key : ∀ j : Fin 25, (nameL j.val).length ≤ 100 := by decide +kernel
    exact key ⟨n, hn⟩
  generalize usesN n = u at *
  generalize nameL n = nm at *
  obtain ⟨W0, hW0⟩ : ∃ W0, W0 = w.alloc (.cells #[.int .i64 n, .int .i64 i.dst, .int .i64 i.src, .int .i64 i.off, .int .u32 i.imm] 43) := ⟨_, rfl⟩
  have hB0 : Below w.heap.size w W0 := by rw [hW0]; exact (Below.refl _ _).alloc (Nat.le_refl _) _
  have hmy := may_any i.op i.dst i.src i.off i.imm W0 (hG.below hB0 hz)
  rw [show mayB i.op i.dst i.src i.off i.imm = true from hm, hop] at hmy
  have hTS0 : TS w W0 #[.int .i64 n, .int .i64 i.dst, .int .i64 i.src, .int .i64 i.off, .int .u32 i.imm] (.slice none 0 0) [] := ⟨by rw [hW0]; exact has_new _ _ _ _ rfl, World.ownsRow_nil _ _ _ _, hB0⟩
  have hcells : i.cells.toArray = #[.int .i64 n, .int .i64 i.dst, .int .i64 i.src, .int .i64 i.off, .int .u32 i.imm] := by rw [← hop]; rfl
  rw [hcells]
  have hTabB : Hid (∀ W, Below w.heap.size w W → Tab W) := fun W hB => hT.below hB hz1
  have hcu : Hid (∀ W, Below w.heap.size w W → W.cell? ⟨0, n * 2 + 1, none⟩ = some (.int .i64 u) ∧ W.cell? ⟨0, n * 2, none⟩ = some (.string (str nm))) := fun W hB => ⟨(hB.cell (p := ⟨0, n * 2 + 1, none⟩) hz).trans hu9, (hB.cell (p := ⟨0, n * 2, none⟩) hz).trans hn9⟩
  obtain ⟨bx, hbx⟩ : ∃ bx : Array Value, bx = #[.int .i64 n, .int .i64 i.dst, .int .i64 i.src, .int .i64 i.off, .int .u32 i.imm] := ⟨_, rfl⟩
  have HBX : Hid (bx = #[.int .i64 n, .int .i64 i.dst, .int .i64 i.src, .int .i64 i.off, .int .u32 i.imm]) := hbx
  rw [← hbx] at hTS0
  clear hcells hu9 hn9 hm hop hbx
  go_enter Tryd.func19, Tryd.ntmps19
  go_wp2_with fail
  rw [← hW0]
  clear hW0
  refine hmy.mono ?_
  clear hmy
  rintro e W1 ⟨rfl, hB1⟩
  have hTS := hTS0.below hB1
  clear hTS0 hB1
  have hbx' := hTS.box
  rw [HBX.out] at hbx'
  have y0 := hbx'.cell 0
  have y1 := hbx'.cell 1
  have y2 := hbx'.cell 2
  have y3 := hbx'.cell 3
  have y4 := hbx'.cell 4
  have yu := (hcu.out W1 hTS.bel).1
  have yn := (hcu.out W1 hTS.bel).2
  have hzW := hTS.box.lt
  go_wp2_with (first | (go_at_call 30; refine (has_any _ _ _).mono ?_; rintro e w' ⟨rfl, hw⟩; obtain rfl := hw))
  clear y0 y1 y2 y3 y4 yu yn hbx' hzW
  refine (signed_any i.off f1 f2 W1 (hTabB.out _ hTS.bel)).mono ?_
  rintro e Wc0 ⟨rfl, hBx⟩
  replace hTS := hTS.below hBx
  clear hBx
  rw [show str (if i.off < 0 then Lib.itoa i.off else 43 :: Lib.itoa i.off) = str (sgnL i.off) from rfl]
  have hB0 : Below Wc0.heap.size Wc0 (Wc0.alloc (.cells #[sv (sgnL i.off)] 9)) := (Below.refl _ _).alloc (Nat.le_refl _) _
  have hTx := hTS.below hB0
  have hHx : Has (Wc0.alloc (.cells #[sv (sgnL i.off)] 9)) Wc0.heap.size #[sv (sgnL i.off)] 9 := has_new _ _ _ _ rfl
  clear hB0 hTS
  go_wp2_with (refine wpList_append_text rfl _ _ rfl Wc0.heap.size (sgnL i.off) rfl rfl hTx hHx (by simp) ?_; intro v0 Wa0 hTS; clear hTx hHx; refine Hid.out ?_)
  refine Lib.hid ?_
  obtain ⟨a0, c0, hv0⟩ := hTS.slice
  subst hv0
  have hbx' := hTS.box
  rw [HBX.out] at hbx'
  have y0 := hbx'.cell 0
  have y1 := hbx'.cell 1
  have y2 := hbx'.cell 2
  have y3 := hbx'.cell 3
  have y4 := hbx'.cell 4
  have yu := (hcu.out Wa0 hTS.bel).1
  have yn := (hcu.out Wa0 hTS.bel).2
  have hzW := hTS.box.lt
  have hjn := join_of hTS (by simp) (by intro x hx; simp at hx; rcases hx with rfl <;> first | exact regL_len _ (by assumption) (by assumption) | exact sgnL_len _ (by assumption) (by assumption) | (have := dec_len i.imm hu; omega)) (by simp)
  have hjl : Hid ((Lib.join ([] ++ [sgnL i.off]) [44, 32]).length ≤ 1000) := join_len _ (by intro x hx; simp at hx; rcases hx with rfl <;> first | exact regL_len _ (by assumption) (by assumption) | exact sgnL_len _ (by assumption) (by assumption) | (have := dec_len i.imm hu; omega)) (by simp)
  go_wp2_with (first | (go_at_call 30; refine (has_any _ _ _).mono ?_; rintro e w' ⟨rfl, hw⟩; obtain rfl := hw) | refine wpList_cat rfl _ _ rfl nm [32] rfl rfl (by have := hnl.out; simp; omega) ?_ | (go_at_call 34; refine hjn.mono ?_; rintro e We ⟨rfl, hBe⟩) | refine wpList_cat rfl _ _ rfl (nm ++ [32]) _ rfl rfl (by have := hnl.out; have := hjl.out; simp at this ⊢; omega) ?_)
  go_ret2
  exact ⟨rfl, hTS.bel.trans (hBe.mono hTS.bel.size)⟩
set_option maxRecDepth 10000 in
set_option maxHeartbeats 2000000 in
theorem text_dmo (i : Ins) (n : Nat) (hop : i.op = n) (hn : n < 25) (w : World) (hG : Glob w) (hT : Tab w) (hm : i.may = true) (hu : i.imm < 4294967296) (h1 : hasB (usesN n) 1 = true) (h2 : hasB (usesN n) 2 = false) (h3 : hasB (usesN n) 28 = true) (h4 : hasB (usesN n) 96 = true) :
    Calls Tryd.prog 19 #[.agg i.cells.toArray] w fun e w' => e = .returned (.tuple #[.string (str (textT (nameL n) (partsT true false true true i))), .int .i64 0]) ∧ Below w.heap.size w w' := by
  have _ := hu
  obtain ⟨⟨o1, o2⟩, ⟨d1, d2⟩, ⟨s1, s2⟩, ⟨f1, f2⟩⟩ := may_bounds hm
  have hu9 := hG.uses n hn
  have hn9 := hG.name n hn
  have hz := hG.size
  have hz1 := hT.size
  have i1 : (n : Int) < 25 := by omega
  have hnl : Hid ((nameL n).length ≤ 100) := by
    have key : ∀ j : Fin 25, (nameL j.val).length ≤ 100 := by decide +kernel
    exact key ⟨n, hn⟩
  generalize usesN n = u at *
  generalize nameL n = nm at *
  obtain ⟨W0, hW0⟩ : ∃ W0, W0 = w.alloc (.cells #[.int .i64 n, .int .i64 i.dst, .int .i64 i.src, .int .i64 i.off, .int .u32 i.imm] 43) := ⟨_, rfl⟩
  have hB0 : Below w.heap.size w W0 := by rw [hW0]; exact (Below.refl _ _).alloc (Nat.le_refl _) _
  have hmy := may_any i.op i.dst i.src i.off i.imm W0 (hG.below hB0 hz)
  rw [show mayB i.op i.dst i.src i.off i.imm = true from hm, hop] at hmy
  have hTS0 : TS w W0 #[.int .i64 n, .int .i64 i.dst, .int .i64 i.src, .int .i64 i.off, .int .u32 i.imm] (.slice none 0 0) [] := ⟨by rw [hW0]; exact has_new _ _ _ _ rfl, World.ownsRow_nil _ _ _ _, hB0⟩
  have hcells : i.cells.toArray = #[.int .i64 n, .int .i64 i.dst, .int .i64 i.src, .int .i64 i.off, .int .u32 i.imm] := by rw [← hop]; rfl
  rw [hcells]
  have hTabB : Hid (∀ W, Below w.heap.size w W → Tab W) := fun W hB => hT.below hB hz1
  have hcu : Hid (∀ W, Below w.heap.size w W → W.cell? ⟨0, n * 2 + 1, none⟩ = some (.int .i64 u) ∧ W.cell? ⟨0, n * 2, none⟩ = some (.string (str nm))) := fun W hB => ⟨(hB.cell (p := ⟨0, n * 2 + 1, none⟩) hz).trans hu9, (hB.cell (p := ⟨0, n * 2, none⟩) hz).trans hn9⟩
  obtain ⟨bx, hbx⟩ : ∃ bx : Array Value, bx = #[.int .i64 n, .int .i64 i.dst, .int .i64 i.src, .int .i64 i.off, .int .u32 i.imm] := ⟨_, rfl⟩
  have HBX : Hid (bx = #[.int .i64 n, .int .i64 i.dst, .int .i64 i.src, .int .i64 i.off, .int .u32 i.imm]) := hbx
  rw [← hbx] at hTS0
  clear hcells hu9 hn9 hm hop hbx
  go_enter Tryd.func19, Tryd.ntmps19
  go_wp2_with fail
  rw [← hW0]
  clear hW0
  refine hmy.mono ?_
  clear hmy
  rintro e W1 ⟨rfl, hB1⟩
  have hTS := hTS0.below hB1
  clear hTS0 hB1
  have hbx' := hTS.box
  rw [HBX.out] at hbx'
  have y0 := hbx'.cell 0
  have y1 := hbx'.cell 1
  have y2 := hbx'.cell 2
  have y3 := hbx'.cell 3
  have y4 := hbx'.cell 4
  have yu := (hcu.out W1 hTS.bel).1
  have yn := (hcu.out W1 hTS.bel).2
  have hzW := hTS.box.lt
  go_wp2_with (first | (go_at_call 30; refine (has_any _ _ _).mono ?_; rintro e w' ⟨rfl, hw⟩; obtain rfl := hw))
  clear y0 y1 y2 y3 y4 yu yn hbx' hzW
  refine (register_any i.dst d1 d2 W1).mono ?_
  rintro e Wc0 ⟨rfl, hw⟩
  obtain rfl := hw.symm
  clear hw
  rw [show str (114 :: Lib.decDigits i.dst.toNat) = str (regL i.dst) from rfl]
  have hB0 : Below W1.heap.size W1 (W1.alloc (.cells #[sv (regL i.dst)] 9)) := (Below.refl _ _).alloc (Nat.le_refl _) _
  have hTx := hTS.below hB0
  have hHx : Has (W1.alloc (.cells #[sv (regL i.dst)] 9)) W1.heap.size #[sv (regL i.dst)] 9 := has_new _ _ _ _ rfl
  clear hB0 hTS
  go_wp2_with (refine wpList_append_text rfl _ _ rfl W1.heap.size (regL i.dst) rfl rfl hTx hHx (by simp) ?_; intro v0 Wa0 hTS; clear hTx hHx; refine Hid.out ?_)
  refine Lib.hid ?_
  obtain ⟨a0, c0, hv0⟩ := hTS.slice
  subst hv0
  have hbx' := hTS.box
  rw [HBX.out] at hbx'
  have y0 := hbx'.cell 0
  have y1 := hbx'.cell 1
  have y2 := hbx'.cell 2
  have y3 := hbx'.cell 3
  have y4 := hbx'.cell 4
  have yu := (hcu.out Wa0 hTS.bel).1
  have yn := (hcu.out Wa0 hTS.bel).2
  have hzW := hTS.box.lt
  go_wp2_with (first | (go_at_call 30; refine (has_any _ _ _).mono ?_; rintro e w' ⟨rfl, hw⟩; obtain rfl := hw))
  clear y0 y1 y2 y3 y4 yu yn hbx' hzW
  refine (fmt_any i.imm (by omega) Wa0 (hTabB.out _ hTS.bel)).mono ?_
  rintro e Wc1 ⟨rfl, hBx⟩
  replace hTS := hTS.below hBx
  clear hBx
  have hB1 : Below Wc1.heap.size Wc1 (Wc1.alloc (.cells #[sv (Lib.decDigits i.imm)] 9)) := (Below.refl _ _).alloc (Nat.le_refl _) _
  have hTx := hTS.below hB1
  have hHx : Has (Wc1.alloc (.cells #[sv (Lib.decDigits i.imm)] 9)) Wc1.heap.size #[sv (Lib.decDigits i.imm)] 9 := has_new _ _ _ _ rfl
  clear hB1 hTS
  go_wp2_with (refine wpList_append_text rfl _ _ rfl Wc1.heap.size (Lib.decDigits i.imm) rfl rfl hTx hHx (by simp) ?_; intro v1 Wa1 hTS; clear hTx hHx; refine Hid.out ?_)
  refine Lib.hid ?_
  obtain ⟨a1, c1, hv1⟩ := hTS.slice
  subst hv1
  have hbx' := hTS.box
  rw [HBX.out] at hbx'
  have y0 := hbx'.cell 0
  have y1 := hbx'.cell 1
  have y2 := hbx'.cell 2
  have y3 := hbx'.cell 3
  have y4 := hbx'.cell 4
  have yu := (hcu.out Wa1 hTS.bel).1
  have yn := (hcu.out Wa1 hTS.bel).2
  have hzW := hTS.box.lt
  go_wp2_with (first | (go_at_call 30; refine (has_any _ _ _).mono ?_; rintro e w' ⟨rfl, hw⟩; obtain rfl := hw))
  clear y0 y1 y2 y3 y4 yu yn hbx' hzW
  refine (signed_any i.off f1 f2 Wa1 (hTabB.out _ hTS.bel)).mono ?_
  rintro e Wc2 ⟨rfl, hBx⟩
  replace hTS := hTS.below hBx
  clear hBx
  rw [show str (if i.off < 0 then Lib.itoa i.off else 43 :: Lib.itoa i.off) = str (sgnL i.off) from rfl]
  have hB2 : Below Wc2.heap.size Wc2 (Wc2.alloc (.cells #[sv (sgnL i.off)] 9)) := (Below.refl _ _).alloc (Nat.le_refl _) _
  have hTx := hTS.below hB2
  have hHx : Has (Wc2.alloc (.cells #[sv (sgnL i.off)] 9)) Wc2.heap.size #[sv (sgnL i.off)] 9 := has_new _ _ _ _ rfl
  clear hB2 hTS
  go_wp2_with (refine wpList_append_text rfl _ _ rfl Wc2.heap.size (sgnL i.off) rfl rfl hTx hHx (by simp) ?_; intro v2 Wa2 hTS; clear hTx hHx; refine Hid.out ?_)
  refine Lib.hid ?_
  obtain ⟨a2, c2, hv2⟩ := hTS.slice
  subst hv2
  have hbx' := hTS.box
  rw [HBX.out] at hbx'
  have y0 := hbx'.cell 0
  have y1 := hbx'.cell 1
  have y2 := hbx'.cell 2
  have y3 := hbx'.cell 3
  have y4 := hbx'.cell 4
  have yu := (hcu.out Wa2 hTS.bel).1
  have yn := (hcu.out Wa2 hTS.bel).2
  have hzW := hTS.box.lt
  have hjn := join_of hTS (by simp) (by intro x hx; simp at hx; rcases hx with rfl | rfl | rfl <;> first | exact regL_len _ (by assumption) (by assumption) | exact sgnL_len _ (by assumption) (by assumption) | (have := dec_len i.imm hu; omega)) (by simp)
  have hjl : Hid ((Lib.join ([] ++ [regL i.dst] ++ [Lib.decDigits i.imm] ++ [sgnL i.off]) [44, 32]).length ≤ 1000) := join_len _ (by intro x hx; simp at hx; rcases hx with rfl | rfl | rfl <;> first | exact regL_len _ (by assumption) (by assumption) | exact sgnL_len _ (by assumption) (by assumption) | (have := dec_len i.imm hu; omega)) (by simp)
  go_wp2_with (first | (go_at_call 30; refine (has_any _ _ _).mono ?_; rintro e w' ⟨rfl, hw⟩; obtain rfl := hw) | refine wpList_cat rfl _ _ rfl nm [32] rfl rfl (by have := hnl.out; simp; omega) ?_ | (go_at_call 34; refine hjn.mono ?_; rintro e We ⟨rfl, hBe⟩) | refine wpList_cat rfl _ _ rfl (nm ++ [32]) _ rfl rfl (by have := hnl.out; have := hjl.out; simp at this ⊢; omega) ?_)
  go_ret2
  exact ⟨rfl, hTS.bel.trans (hBe.mono hTS.bel.size)⟩
set_option maxRecDepth 10000 in
set_option maxHeartbeats 2000000 in
theorem text_m (i : Ins) (n : Nat) (hop : i.op = n) (hn : n < 25) (w : World) (hG : Glob w) (hT : Tab w) (hm : i.may = true) (hu : i.imm < 4294967296) (h1 : hasB (usesN n) 1 = false) (h2 : hasB (usesN n) 2 = false) (h3 : hasB (usesN n) 28 = true) (h4 : hasB (usesN n) 96 = false) :
    Calls Tryd.prog 19 #[.agg i.cells.toArray] w fun e w' => e = .returned (.tuple #[.string (str (textT (nameL n) (partsT false false true false i))), .int .i64 0]) ∧ Below w.heap.size w w' := by
  have _ := hu
  obtain ⟨⟨o1, o2⟩, ⟨d1, d2⟩, ⟨s1, s2⟩, ⟨f1, f2⟩⟩ := may_bounds hm
  have hu9 := hG.uses n hn
  have hn9 := hG.name n hn
  have hz := hG.size
  have hz1 := hT.size
  have i1 : (n : Int) < 25 := by omega
  have hnl : Hid ((nameL n).length ≤ 100) := by
    have key : ∀ j : Fin 25, (nameL j.val).length ≤ 100 := by decide +kernel
    exact key ⟨n, hn⟩
  generalize usesN n = u at *
  generalize nameL n = nm at *
  obtain ⟨W0, hW0⟩ : ∃ W0, W0 = w.alloc (.cells #[.int .i64 n, .int .i64 i.dst, .int .i64 i.src, .int .i64 i.off, .int .u32 i.imm] 43) := ⟨_, rfl⟩
  have hB0 : Below w.heap.size w W0 := by rw [hW0]; exact (Below.refl _ _).alloc (Nat.le_refl _) _
  have hmy := may_any i.op i.dst i.src i.off i.imm W0 (hG.below hB0 hz)
  rw [show mayB i.op i.dst i.src i.off i.imm = true from hm, hop] at hmy
  have hTS0 : TS w W0 #[.int .i64 n, .int .i64 i.dst, .int .i64 i.src, .int .i64 i.off, .int .u32 i.imm] (.slice none 0 0) [] := ⟨by rw [hW0]; exact has_new _ _ _ _ rfl, World.ownsRow_nil _ _ _ _, hB0⟩
  have hcells : i.cells.toArray = #[.int .i64 n, .int .i64 i.dst, .int .i64 i.src, .int .i64 i.off, .int .u32 i.imm] := by rw [← hop]; rfl
  rw [hcells]
  have hTabB : Hid (∀ W, Below w.heap.size w W → Tab W) := fun W hB => hT.below hB hz1
  have hcu : Hid (∀ W, Below w.heap.size w W → W.cell? ⟨0, n * 2 + 1, none⟩ = some (.int .i64 u) ∧ W.cell? ⟨0, n * 2, none⟩ = some (.string (str nm))) := fun W hB => ⟨(hB.cell (p := ⟨0, n * 2 + 1, none⟩) hz).trans hu9, (hB.cell (p := ⟨0, n * 2, none⟩) hz).trans hn9⟩
  obtain ⟨bx, hbx⟩ : ∃ bx : Array Value, bx = #[.int .i64 n, .int .i64 i.dst, .int .i64 i.src, .int .i64 i.off, .int .u32 i.imm] := ⟨_, rfl⟩
  have HBX : Hid (bx = #[.int .i64 n, .int .i64 i.dst, .int .i64 i.src, .int .i64 i.off, .int .u32 i.imm]) := hbx
  rw [← hbx] at hTS0
  clear hcells hu9 hn9 hm hop hbx
  go_enter Tryd.func19, Tryd.ntmps19
  go_wp2_with fail
  rw [← hW0]
  clear hW0
  refine hmy.mono ?_
  clear hmy
  rintro e W1 ⟨rfl, hB1⟩
  have hTS := hTS0.below hB1
  clear hTS0 hB1
  have hbx' := hTS.box
  rw [HBX.out] at hbx'
  have y0 := hbx'.cell 0
  have y1 := hbx'.cell 1
  have y2 := hbx'.cell 2
  have y3 := hbx'.cell 3
  have y4 := hbx'.cell 4
  have yu := (hcu.out W1 hTS.bel).1
  have yn := (hcu.out W1 hTS.bel).2
  have hzW := hTS.box.lt
  go_wp2_with (first | (go_at_call 30; refine (has_any _ _ _).mono ?_; rintro e w' ⟨rfl, hw⟩; obtain rfl := hw))
  clear y0 y1 y2 y3 y4 yu yn hbx' hzW
  refine (fmt_any i.imm (by omega) W1 (hTabB.out _ hTS.bel)).mono ?_
  rintro e Wc0 ⟨rfl, hBx⟩
  replace hTS := hTS.below hBx
  clear hBx
  have hB0 : Below Wc0.heap.size Wc0 (Wc0.alloc (.cells #[sv (Lib.decDigits i.imm)] 9)) := (Below.refl _ _).alloc (Nat.le_refl _) _
  have hTx := hTS.below hB0
  have hHx : Has (Wc0.alloc (.cells #[sv (Lib.decDigits i.imm)] 9)) Wc0.heap.size #[sv (Lib.decDigits i.imm)] 9 := has_new _ _ _ _ rfl
  clear hB0 hTS
  go_wp2_with (refine wpList_append_text rfl _ _ rfl Wc0.heap.size (Lib.decDigits i.imm) rfl rfl hTx hHx (by simp) ?_; intro v0 Wa0 hTS; clear hTx hHx; refine Hid.out ?_)
  refine Lib.hid ?_
  obtain ⟨a0, c0, hv0⟩ := hTS.slice
  subst hv0
  have hbx' := hTS.box
  rw [HBX.out] at hbx'
  have y0 := hbx'.cell 0
  have y1 := hbx'.cell 1
  have y2 := hbx'.cell 2
  have y3 := hbx'.cell 3
  have y4 := hbx'.cell 4
  have yu := (hcu.out Wa0 hTS.bel).1
  have yn := (hcu.out Wa0 hTS.bel).2
  have hzW := hTS.box.lt
  have hjn := join_of hTS (by simp) (by intro x hx; simp at hx; rcases hx with rfl <;> first | exact regL_len _ (by assumption) (by assumption) | exact sgnL_len _ (by assumption) (by assumption) | (have := dec_len i.imm hu; omega)) (by simp)
  have hjl : Hid ((Lib.join ([] ++ [Lib.decDigits i.imm]) [44, 32]).length ≤ 1000) := join_len _ (by intro x hx; simp at hx; rcases hx with rfl <;> first | exact regL_len _ (by assumption) (by assumption) | exact sgnL_len _ (by assumption) (by assumption) | (have := dec_len i.imm hu; omega)) (by simp)
  go_wp2_with (first | (go_at_call 30; refine (has_any _ _ _).mono ?_; rintro e w' ⟨rfl, hw⟩; obtain rfl := hw) | refine wpList_cat rfl _ _ rfl nm [32] rfl rfl (by have := hnl.out; simp; omega) ?_ | (go_at_call 34; refine hjn.mono ?_; rintro e We ⟨rfl, hBe⟩) | refine wpList_cat rfl _ _ rfl (nm ++ [32]) _ rfl rfl (by have := hnl.out; have := hjl.out; simp at this ⊢; omega) ?_)
  go_ret2
  exact ⟨rfl, hTS.bel.trans (hBe.mono hTS.bel.size)⟩
set_option maxRecDepth 10000 in
set_option maxHeartbeats 2000000 in
theorem text_e (i : Ins) (n : Nat) (hop : i.op = n) (hn : n < 25) (w : World) (hG : Glob w) (hT : Tab w) (hm : i.may = true) (hu : i.imm < 4294967296) (h1 : hasB (usesN n) 1 = false) (h2 : hasB (usesN n) 2 = false) (h3 : hasB (usesN n) 28 = false) (h4 : hasB (usesN n) 96 = false) :
    Calls Tryd.prog 19 #[.agg i.cells.toArray] w fun e w' => e = .returned (.tuple #[.string (str (textT (nameL n) (partsT false false false false i))), .int .i64 0]) ∧ Below w.heap.size w w' := by
  have _ := hu
  obtain ⟨⟨o1, o2⟩, ⟨d1, d2⟩, ⟨s1, s2⟩, ⟨f1, f2⟩⟩ := may_bounds hm
  have hu9 := hG.uses n hn
  have hn9 := hG.name n hn
  have hz := hG.size
  have hz1 := hT.size
  have i1 : (n : Int) < 25 := by omega
  have hnl : Hid ((nameL n).length ≤ 100) := by
    have key : ∀ j : Fin 25, (nameL j.val).length ≤ 100 := by decide +kernel
    exact key ⟨n, hn⟩
  generalize usesN n = u at *
  generalize nameL n = nm at *
  obtain ⟨W0, hW0⟩ : ∃ W0, W0 = w.alloc (.cells #[.int .i64 n, .int .i64 i.dst, .int .i64 i.src, .int .i64 i.off, .int .u32 i.imm] 43) := ⟨_, rfl⟩
  have hB0 : Below w.heap.size w W0 := by rw [hW0]; exact (Below.refl _ _).alloc (Nat.le_refl _) _
  have hmy := may_any i.op i.dst i.src i.off i.imm W0 (hG.below hB0 hz)
  rw [show mayB i.op i.dst i.src i.off i.imm = true from hm, hop] at hmy
  have hTS0 : TS w W0 #[.int .i64 n, .int .i64 i.dst, .int .i64 i.src, .int .i64 i.off, .int .u32 i.imm] (.slice none 0 0) [] := ⟨by rw [hW0]; exact has_new _ _ _ _ rfl, World.ownsRow_nil _ _ _ _, hB0⟩
  have hcells : i.cells.toArray = #[.int .i64 n, .int .i64 i.dst, .int .i64 i.src, .int .i64 i.off, .int .u32 i.imm] := by rw [← hop]; rfl
  rw [hcells]
  have hTabB : Hid (∀ W, Below w.heap.size w W → Tab W) := fun W hB => hT.below hB hz1
  have hcu : Hid (∀ W, Below w.heap.size w W → W.cell? ⟨0, n * 2 + 1, none⟩ = some (.int .i64 u) ∧ W.cell? ⟨0, n * 2, none⟩ = some (.string (str nm))) := fun W hB => ⟨(hB.cell (p := ⟨0, n * 2 + 1, none⟩) hz).trans hu9, (hB.cell (p := ⟨0, n * 2, none⟩) hz).trans hn9⟩
  obtain ⟨bx, hbx⟩ : ∃ bx : Array Value, bx = #[.int .i64 n, .int .i64 i.dst, .int .i64 i.src, .int .i64 i.off, .int .u32 i.imm] := ⟨_, rfl⟩
  have HBX : Hid (bx = #[.int .i64 n, .int .i64 i.dst, .int .i64 i.src, .int .i64 i.off, .int .u32 i.imm]) := hbx
  rw [← hbx] at hTS0
  clear hcells hu9 hn9 hm hop hbx
  go_enter Tryd.func19, Tryd.ntmps19
  go_wp2_with fail
  rw [← hW0]
  clear hW0
  refine hmy.mono ?_
  clear hmy
  rintro e W1 ⟨rfl, hB1⟩
  have hTS := hTS0.below hB1
  clear hTS0 hB1
  have hbx' := hTS.box
  rw [HBX.out] at hbx'
  have y0 := hbx'.cell 0
  have y1 := hbx'.cell 1
  have y2 := hbx'.cell 2
  have y3 := hbx'.cell 3
  have y4 := hbx'.cell 4
  have yu := (hcu.out W1 hTS.bel).1
  have yn := (hcu.out W1 hTS.bel).2
  have hzW := hTS.box.lt
  go_wp2_with (first | (go_at_call 30; refine (has_any _ _ _).mono ?_; rintro e w' ⟨rfl, hw⟩; obtain rfl := hw))
  go_ret2
  exact ⟨rfl, hTS.bel⟩
end Go.Proofs.YtoalchlokcphkaaDoor
