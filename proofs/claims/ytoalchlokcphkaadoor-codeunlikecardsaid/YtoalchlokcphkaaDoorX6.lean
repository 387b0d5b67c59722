/- Text: an instruction as a text, the document's. -/
import Derived.Test.YtoalchlokcphkaaDoorX5
import Derived.Test.YtoalchlokcphkaaDoorC4
namespace Go.Proofs.YtoalchlokcphkaaDoor
open Go.RowKit

theorem digi_any (n : Int) (h0 : 0 ≤ n) (h1 : n < 9223372036854775808) (w : World) :
    Calls Tryd.prog 37 #[.int .i64 n] w fun e w' => e = .returned (.string (str (Lib.decDigits n.toNat))) ∧ Below w.heap.size w w' := by
  obtain ⟨m, rfl⟩ : ∃ m : Nat, n = m := ⟨n.toNat, by omega⟩
  exact digits_any m (by omega) w
theorem sgnL_neg {n : Int} (h : n < 0) : sgnL n = 45 :: Lib.decDigits (-n).toNat := by
  unfold sgnL Lib.itoa; rw [if_pos h, if_pos h]; congr 2; omega
theorem sgnL_pos {n : Int} (h : 0 ≤ n) : sgnL n = 43 :: Lib.decDigits n.toNat := by
  unfold sgnL Lib.itoa; rw [if_neg (by omega), if_neg (by omega)]
theorem textT_zero (nm : List UInt8) (xs : List (List UInt8)) (x : List UInt8) (h : xs[0]? = some x) : textT nm (xs.take 1) = nm ++ 32 :: x := by
  cases xs with
  | nil => simp at h
  | cons a r => simp at h; subst h; show nm ++ 32 :: Lib.join [a] [44, 32] = _; rw [Lib.join_one]
theorem textT_succ (nm : List UInt8) (xs : List (List UInt8)) (k : Nat) (x : List UInt8) (h : xs[k + 1]? = some x) : textT nm (xs.take (k + 1 + 1)) = textT nm (xs.take (k + 1)) ++ [44, 32] ++ x := by
  cases xs with
  | nil => simp at h
  | cons a r =>
    have h' : r[k]? = some x := by simpa using h
    rw [List.take_succ_cons, List.take_succ_cons]
    show nm ++ 32 :: Lib.join (a :: r.take (k + 1)) [44, 32] = nm ++ 32 :: Lib.join (a :: r.take k) [44, 32] ++ [44, 32] ++ x
    rw [Lib.join_cons, Lib.join_cons, Lib.joinTail_take_succ _ _ k x h']
    simp
theorem textT_len (nm : List UInt8) (xs : List (List UInt8)) (k : Nat) (hn : nm.length ≤ 100) (h : ∀ x ∈ xs, x.length ≤ 22) (hl : xs.length ≤ 4) : (textT nm (xs.take k)).length ≤ 2000 := by
  have h1 : ∀ x ∈ xs.take k, x.length ≤ 22 := fun x hx => h x (List.mem_of_mem_take hx)
  have h2 : (xs.take k).length ≤ 4 := by rw [List.length_take]; omega
  generalize xs.take k = ys at *
  have h3 := join_len ys h1 h2
  cases ys with
  | nil => show nm.length ≤ 2000; omega
  | cons a r => show (nm ++ 32 :: Lib.join (a :: r) [44, 32]).length ≤ 2000; rw [List.length_append, List.length_cons]; omega
set_option maxRecDepth 10000 in
set_option maxHeartbeats 2000000 in
theorem rtext_dm (i : Ins) (n : Nat) (hop : i.op = n) (hn : n < 25) (w : World) (hm : i.may = true) (hu : i.imm < 4294967296) (h1 : useD n = true) (h2 : useS n = false) (h3 : useM n = true) (h4 : useO n = false) (h5 : useI n = true) :
    Calls Tryd.prog 23 #[.agg i.cells.toArray] w fun e w' => e = .returned (.string (str (textT (nameL n) (partsT true false true false i)))) ∧ Below w.heap.size w w' := by
  have _ := hu
  obtain ⟨⟨o1, o2⟩, ⟨d1, d2⟩, ⟨s1, s2⟩, ⟨f1, f2⟩⟩ := may_bounds hm
  have hnl : Hid ((nameL n).length ≤ 100) := by
    have key : ∀ j : Fin 25, (nameL j.val).length ≤ 100 := by decide +kernel
    exact key ⟨n, hn⟩
  have hrn := fun W => rname_yes n W h5 hn
  have hus := fun W => uses_any n W
  rw [h1, h2, h3, h4, h5] at hus
  generalize nameL n = nm at *
  have hTS0 : TS w (w.alloc (.cells #[.int .i64 n, .int .i64 i.dst, .int .i64 i.src, .int .i64 i.off, .int .u32 i.imm] 43)) #[.int .i64 n, .int .i64 i.dst, .int .i64 i.src, .int .i64 i.off, .int .u32 i.imm] (.slice none 0 0) [] := ⟨has_new _ _ _ _ rfl, World.ownsRow_nil _ _ _ _, (Below.refl _ _).alloc (Nat.le_refl _) _⟩
  have hcells : i.cells.toArray = #[.int .i64 n, .int .i64 i.dst, .int .i64 i.src, .int .i64 i.off, .int .u32 i.imm] := by rw [← hop]; rfl
  rw [hcells]
  obtain ⟨bx, hbx⟩ : ∃ bx : Array Value, bx = #[.int .i64 n, .int .i64 i.dst, .int .i64 i.src, .int .i64 i.off, .int .u32 i.imm] := ⟨_, rfl⟩
  have HBX : Hid (bx = #[.int .i64 n, .int .i64 i.dst, .int .i64 i.src, .int .i64 i.off, .int .u32 i.imm]) := hbx
  obtain ⟨W1, hW1⟩ : ∃ W1, W1 = w.alloc (.cells #[.int .i64 n, .int .i64 i.dst, .int .i64 i.src, .int .i64 i.off, .int .u32 i.imm] 43) := ⟨_, rfl⟩
  have hTS : TS w W1 bx (.slice none 0 0) [] := by rw [hbx, hW1]; exact hTS0
  clear hTS0 hcells hm hop hbx h1 h2 h3 h4 h5
  go_enter Tryd.func23, Tryd.ntmps23
  go_wp2_with fail
  rw [← hW1]
  clear hW1
  refine (hus W1).mono ?_
  rintro e w' ⟨rfl, hw⟩
  obtain rfl := hw
  clear hus
  have hbx' := hTS.box
  rw [HBX.out] at hbx'
  have y0 := hbx'.cell 0
  have y1 := hbx'.cell 1
  have y2 := hbx'.cell 2
  have y3 := hbx'.cell 3
  have y4 := hbx'.cell 4
  have hzW := hTS.box.lt
  go_wp2_with fail
  clear y0 y1 y2 y3 y4 hbx' hzW
  refine (digi_any i.dst d1 (by omega) W1).mono ?_
  rintro e Wc0 ⟨rfl, hBx⟩
  replace hTS := hTS.below hBx
  clear hBx
  have hcl : Hid (((Lib.decDigits i.dst.toNat)).length ≤ 22) := by show _ ≤ _; have := regL_len i.dst d1 d2; unfold regL at this; simp at this; omega
  have hTx := hTS.below (W' := Wc0.alloc (.cells #[(.string (str (114 :: Lib.decDigits i.dst.toNat)))] 9)) ((Below.refl _ _).alloc (Nat.le_refl _) _)
  have hHx : Has (Wc0.alloc (.cells #[(.string (str (114 :: Lib.decDigits i.dst.toNat)))] 9)) Wc0.heap.size #[sv (regL i.dst)] 9 := has_new _ _ _ _ rfl
  clear hTS
  go_wp2_with (first | refine wpList_cat rfl _ _ rfl [114] (Lib.decDigits i.dst.toNat) rfl rfl (by have := hcl.out; simp; omega) ?_ | (refine wpList_append_text rfl _ _ rfl Wc0.heap.size (regL i.dst) rfl rfl hTx hHx (by simp) ?_; intro v0 Wa0 hTS; clear hTx hHx; refine Hid.out ?_))
  refine Lib.hid ?_
  obtain ⟨a0, c0, hv0⟩ : ∃ a c, v0 = .slice a 1 c := by obtain ⟨a, c, h⟩ := hTS.slice; exact ⟨a, c, h⟩
  subst hv0
  clear hcl
  have hbx' := hTS.box
  rw [HBX.out] at hbx'
  have y0 := hbx'.cell 0
  have y1 := hbx'.cell 1
  have y2 := hbx'.cell 2
  have y3 := hbx'.cell 3
  have y4 := hbx'.cell 4
  have hzW := hTS.box.lt
  go_wp2_with fail
  clear y0 y1 y2 y3 y4 hbx' hzW
  refine (digits_any i.imm (by omega) Wa0).mono ?_
  rintro e Wc1 ⟨rfl, hBx⟩
  replace hTS := hTS.below hBx
  clear hBx
  have hTx := hTS.below (W' := Wc1.alloc (.cells #[(.string (str (Lib.decDigits i.imm)))] 9)) ((Below.refl _ _).alloc (Nat.le_refl _) _)
  have hHx : Has (Wc1.alloc (.cells #[(.string (str (Lib.decDigits i.imm)))] 9)) Wc1.heap.size #[sv (Lib.decDigits i.imm)] 9 := has_new _ _ _ _ rfl
  clear hTS
  go_wp2_with (first | (refine wpList_append_text rfl _ _ rfl Wc1.heap.size (Lib.decDigits i.imm) rfl rfl hTx hHx (by simp) ?_; intro v1 Wa1 hTS; clear hTx hHx; refine Hid.out ?_))
  refine Lib.hid ?_
  obtain ⟨a1, c1, hv1⟩ : ∃ a c, v1 = .slice a 2 c := by obtain ⟨a, c, h⟩ := hTS.slice; exact ⟨a, c, h⟩
  subst hv1
  have hbx' := hTS.box
  rw [HBX.out] at hbx'
  have y0 := hbx'.cell 0
  have y1 := hbx'.cell 1
  have y2 := hbx'.cell 2
  have y3 := hbx'.cell 3
  have y4 := hbx'.cell 4
  have hzW := hTS.box.lt
  go_wp2_with fail
  refine (hrn Wa1).mono ?_
  rintro e Wn ⟨rfl, hBn⟩
  replace hTS := hTS.below hBn
  clear hrn hBn y0 y1 y2 y3 y4 hbx' hzW
  have hTS' : TS w Wn bx (.slice a1 2 c1) [regL i.dst, Lib.decDigits i.imm] := hTS
  clear hTS
  obtain ⟨a, c, e0, hcell⟩ := row_open hTS'.own
  obtain ⟨g, hg, hcs⟩ := hcell (by simp)
  simp only [Value.slice.injEq] at e0
  obtain ⟨e0, e2, e1⟩ := e0
  clear e2
  subst hg
  subst e0
  have hbel := hTS'.bel
  have hxl : ∀ x ∈ ([regL i.dst, Lib.decDigits i.imm] : List (List UInt8)), x.length ≤ 22 := by intro x hx; simp at hx; rcases hx with rfl | rfl <;> first | exact regL_len _ (by assumption) (by assumption) | exact sgnL_len _ (by assumption) (by assumption) | (have := dec_len i.imm hu; omega)
  have hpt : Hid (partsT true false true false i = [regL i.dst, Lib.decDigits i.imm]) := rfl
  have hcs' : Hid (∀ j x, ([regL i.dst, Lib.decDigits i.imm] : List (List UInt8))[j]? = some x → Wn.cell? ⟨g, j, none⟩ = some (.string (str x))) := fun j x hx => hcs j _ (by rw [List.getElem?_map, hx]; rfl)
  have hxl' : Hid (∀ x ∈ ([regL i.dst, Lib.decDigits i.imm] : List (List UInt8)), x.length ≤ 22) := hxl
  have hlen : Hid (([regL i.dst, Lib.decDigits i.imm] : List (List UInt8)).length = 2) := rfl
  clear hcs hcell hxl hTS' e1
  generalize hxs : ([regL i.dst, Lib.decDigits i.imm] : List (List UInt8)) = xs at *
  clear hxs
  go_wp2_with fail
  go_loopw [10, 9] (fun iv ov wr => wr = Wn ∧ ∃ k : Nat, k ≤ 2 ∧ iv = .int .i64 k ∧ ov = .string (str (textT nm (xs.take k)))) (fun iv _ _ => 2 - (intOf iv).toNat)
  case atStart => exact ⟨rfl, 0, Nat.zero_le _, rfl, rfl⟩
  case round =>
    obtain ⟨rfl, k, hk, rfl, rfl⟩ := hrel
    by_cases hlt : k < 2
    · have hlt' : (k : Int) < 2 := by omega
      obtain ⟨x, hx⟩ : ∃ x, xs[k]? = some x := ⟨_, List.getElem?_eq_getElem (by have := hlen.out; omega)⟩
      have hc := hcs'.out k x hx
      have hxl := hxl'.out x (List.mem_of_getElem? hx)
      have hal := textT_len nm xs k hnl.out hxl'.out (by have := hlen.out; omega)
      have HXL : Hid (x.length ≤ 22 ∧ (textT nm (xs.take k)).length ≤ 2000) := ⟨hxl, hal⟩
      clear hxl hal
      cases k with
      | zero =>
        have HE : Hid (textT nm (xs.take (0 + 1)) = nm ++ 32 :: x) := textT_zero nm xs x hx
        have HX0 : Hid (textT nm (xs.take 0) = nm) := rfl
        rw [HX0.out] at HXL ⊢
        clear hx
        go_wp2_with (first | refine wpList_cat rfl _ _ rfl nm [32] rfl rfl (by have := HXL.out.2; simp; omega) ?_ | refine wpList_cat rfl _ _ rfl (nm ++ [32]) x rfl rfl (by have := HXL.out; simp; omega) ?_)
        go_roundw
        case rel => exact ⟨by first | trivial | rfl, 0 + 1, by omega, by go_num, by first | (rw [HE.out]; done) | (rw [HE.out]; congr 2; simp; done)⟩
        case measure => simp [intOf]
      | succ k =>
        have HE : Hid (textT nm (xs.take (k + 1 + 1)) = textT nm (xs.take (k + 1)) ++ [44, 32] ++ x) := textT_succ nm xs k x hx
        have hk0 : ¬ ((k + 1 : Nat) : Int) = 0 := by omega
        obtain ⟨A, hA⟩ : ∃ A, A = textT nm (xs.take (k + 1)) := ⟨_, rfl⟩
        rw [← hA] at HE HXL ⊢
        clear hA hx
        go_wp2_with (first | refine wpList_cat rfl _ _ rfl A [44, 32] rfl rfl (by have := HXL.out.2; simp; omega) ?_ | refine wpList_cat rfl _ _ rfl (A ++ [44, 32]) x rfl rfl (by have := HXL.out; simp; omega) ?_)
        go_roundw
        case rel => exact ⟨by first | trivial | rfl, k + 1 + 1, by omega, by go_num, by first | (rw [HE.out]; done) | (rw [HE.out]; congr 2; simp; done)⟩
        case measure => simp [intOf]; omega
    · obtain rfl : k = 2 := by omega
      have hfull : Hid (xs.take 2 = xs) := by show _ = _; rw [List.take_of_length_le]; have := hlen.out; omega
      go_wp2_with fail
      go_ret
      refine ⟨?_, hbel⟩
      rw [hpt.out]
      show Ending.returned (.string (str (textT nm (xs.take 2)))) = _
      rw [hfull.out]
set_option maxRecDepth 10000 in
set_option maxHeartbeats 2000000 in
theorem rtext_ds (i : Ins) (n : Nat) (hop : i.op = n) (hn : n < 25) (w : World) (hm : i.may = true) (hu : i.imm < 4294967296) (h1 : useD n = true) (h2 : useS n = true) (h3 : useM n = false) (h4 : useO n = false) (h5 : useI n = true) :
    Calls Tryd.prog 23 #[.agg i.cells.toArray] w fun e w' => e = .returned (.string (str (textT (nameL n) (partsT true true false false i)))) ∧ Below w.heap.size w w' := by
  have _ := hu
  obtain ⟨⟨o1, o2⟩, ⟨d1, d2⟩, ⟨s1, s2⟩, ⟨f1, f2⟩⟩ := may_bounds hm
  have hnl : Hid ((nameL n).length ≤ 100) := by
    have key : ∀ j : Fin 25, (nameL j.val).length ≤ 100 := by decide +kernel
    exact key ⟨n, hn⟩
  have hrn := fun W => rname_yes n W h5 hn
  have hus := fun W => uses_any n W
  rw [h1, h2, h3, h4, h5] at hus
  generalize nameL n = nm at *
  have hTS0 : TS w (w.alloc (.cells #[.int .i64 n, .int .i64 i.dst, .int .i64 i.src, .int .i64 i.off, .int .u32 i.imm] 43)) #[.int .i64 n, .int .i64 i.dst, .int .i64 i.src, .int .i64 i.off, .int .u32 i.imm] (.slice none 0 0) [] := ⟨has_new _ _ _ _ rfl, World.ownsRow_nil _ _ _ _, (Below.refl _ _).alloc (Nat.le_refl _) _⟩
  have hcells : i.cells.toArray = #[.int .i64 n, .int .i64 i.dst, .int .i64 i.src, .int .i64 i.off, .int .u32 i.imm] := by rw [← hop]; rfl
  rw [hcells]
  obtain ⟨bx, hbx⟩ : ∃ bx : Array Value, bx = #[.int .i64 n, .int .i64 i.dst, .int .i64 i.src, .int .i64 i.off, .int .u32 i.imm] := ⟨_, rfl⟩
  have HBX : Hid (bx = #[.int .i64 n, .int .i64 i.dst, .int .i64 i.src, .int .i64 i.off, .int .u32 i.imm]) := hbx
  obtain ⟨W1, hW1⟩ : ∃ W1, W1 = w.alloc (.cells #[.int .i64 n, .int .i64 i.dst, .int .i64 i.src, .int .i64 i.off, .int .u32 i.imm] 43) := ⟨_, rfl⟩
  have hTS : TS w W1 bx (.slice none 0 0) [] := by rw [hbx, hW1]; exact hTS0
  clear hTS0 hcells hm hop hbx h1 h2 h3 h4 h5
  go_enter Tryd.func23, Tryd.ntmps23
  go_wp2_with fail
  rw [← hW1]
  clear hW1
  refine (hus W1).mono ?_
  rintro e w' ⟨rfl, hw⟩
  obtain rfl := hw
  clear hus
  have hbx' := hTS.box
  rw [HBX.out] at hbx'
  have y0 := hbx'.cell 0
  have y1 := hbx'.cell 1
  have y2 := hbx'.cell 2
  have y3 := hbx'.cell 3
  have y4 := hbx'.cell 4
  have hzW := hTS.box.lt
  go_wp2_with fail
  clear y0 y1 y2 y3 y4 hbx' hzW
  refine (digi_any i.dst d1 (by omega) W1).mono ?_
  rintro e Wc0 ⟨rfl, hBx⟩
  replace hTS := hTS.below hBx
  clear hBx
  have hcl : Hid (((Lib.decDigits i.dst.toNat)).length ≤ 22) := by show _ ≤ _; have := regL_len i.dst d1 d2; unfold regL at this; simp at this; omega
  have hTx := hTS.below (W' := Wc0.alloc (.cells #[(.string (str (114 :: Lib.decDigits i.dst.toNat)))] 9)) ((Below.refl _ _).alloc (Nat.le_refl _) _)
  have hHx : Has (Wc0.alloc (.cells #[(.string (str (114 :: Lib.decDigits i.dst.toNat)))] 9)) Wc0.heap.size #[sv (regL i.dst)] 9 := has_new _ _ _ _ rfl
  clear hTS
  go_wp2_with (first | refine wpList_cat rfl _ _ rfl [114] (Lib.decDigits i.dst.toNat) rfl rfl (by have := hcl.out; simp; omega) ?_ | (refine wpList_append_text rfl _ _ rfl Wc0.heap.size (regL i.dst) rfl rfl hTx hHx (by simp) ?_; intro v0 Wa0 hTS; clear hTx hHx; refine Hid.out ?_))
  refine Lib.hid ?_
  obtain ⟨a0, c0, hv0⟩ : ∃ a c, v0 = .slice a 1 c := by obtain ⟨a, c, h⟩ := hTS.slice; exact ⟨a, c, h⟩
  subst hv0
  clear hcl
  have hbx' := hTS.box
  rw [HBX.out] at hbx'
  have y0 := hbx'.cell 0
  have y1 := hbx'.cell 1
  have y2 := hbx'.cell 2
  have y3 := hbx'.cell 3
  have y4 := hbx'.cell 4
  have hzW := hTS.box.lt
  go_wp2_with fail
  clear y0 y1 y2 y3 y4 hbx' hzW
  refine (digi_any i.src s1 (by omega) Wa0).mono ?_
  rintro e Wc1 ⟨rfl, hBx⟩
  replace hTS := hTS.below hBx
  clear hBx
  have hcl : Hid (((Lib.decDigits i.src.toNat)).length ≤ 22) := by show _ ≤ _; have := regL_len i.src s1 s2; unfold regL at this; simp at this; omega
  have hTx := hTS.below (W' := Wc1.alloc (.cells #[(.string (str (114 :: Lib.decDigits i.src.toNat)))] 9)) ((Below.refl _ _).alloc (Nat.le_refl _) _)
  have hHx : Has (Wc1.alloc (.cells #[(.string (str (114 :: Lib.decDigits i.src.toNat)))] 9)) Wc1.heap.size #[sv (regL i.src)] 9 := has_new _ _ _ _ rfl
  clear hTS
  go_wp2_with (first | refine wpList_cat rfl _ _ rfl [114] (Lib.decDigits i.src.toNat) rfl rfl (by have := hcl.out; simp; omega) ?_ | (refine wpList_append_text rfl _ _ rfl Wc1.heap.size (regL i.src) rfl rfl hTx hHx (by simp) ?_; intro v1 Wa1 hTS; clear hTx hHx; refine Hid.out ?_))
  refine Lib.hid ?_
  obtain ⟨a1, c1, hv1⟩ : ∃ a c, v1 = .slice a 2 c := by obtain ⟨a, c, h⟩ := hTS.slice; exact ⟨a, c, h⟩
  subst hv1
  clear hcl
  have hbx' := hTS.box
  rw [HBX.out] at hbx'
  have y0 := hbx'.cell 0
  have y1 := hbx'.cell 1
  have y2 := hbx'.cell 2
  have y3 := hbx'.cell 3
  have y4 := hbx'.cell 4
  have hzW := hTS.box.lt
  go_wp2_with fail
  refine (hrn Wa1).mono ?_
  rintro e Wn ⟨rfl, hBn⟩
  replace hTS := hTS.below hBn
  clear hrn hBn y0 y1 y2 y3 y4 hbx' hzW
  have hTS' : TS w Wn bx (.slice a1 2 c1) [regL i.dst, regL i.src] := hTS
  clear hTS
  obtain ⟨a, c, e0, hcell⟩ := row_open hTS'.own
  obtain ⟨g, hg, hcs⟩ := hcell (by simp)
  simp only [Value.slice.injEq] at e0
  obtain ⟨e0, e2, e1⟩ := e0
  clear e2
  subst hg
  subst e0
  have hbel := hTS'.bel
  have hxl : ∀ x ∈ ([regL i.dst, regL i.src] : List (List UInt8)), x.length ≤ 22 := by intro x hx; simp at hx; rcases hx with rfl | rfl <;> first | exact regL_len _ (by assumption) (by assumption) | exact sgnL_len _ (by assumption) (by assumption) | (have := dec_len i.imm hu; omega)
  have hpt : Hid (partsT true true false false i = [regL i.dst, regL i.src]) := rfl
  have hcs' : Hid (∀ j x, ([regL i.dst, regL i.src] : List (List UInt8))[j]? = some x → Wn.cell? ⟨g, j, none⟩ = some (.string (str x))) := fun j x hx => hcs j _ (by rw [List.getElem?_map, hx]; rfl)
  have hxl' : Hid (∀ x ∈ ([regL i.dst, regL i.src] : List (List UInt8)), x.length ≤ 22) := hxl
  have hlen : Hid (([regL i.dst, regL i.src] : List (List UInt8)).length = 2) := rfl
  clear hcs hcell hxl hTS' e1
  generalize hxs : ([regL i.dst, regL i.src] : List (List UInt8)) = xs at *
  clear hxs
  go_wp2_with fail
  go_loopw [10, 9] (fun iv ov wr => wr = Wn ∧ ∃ k : Nat, k ≤ 2 ∧ iv = .int .i64 k ∧ ov = .string (str (textT nm (xs.take k)))) (fun iv _ _ => 2 - (intOf iv).toNat)
  case atStart => exact ⟨rfl, 0, Nat.zero_le _, rfl, rfl⟩
  case round =>
    obtain ⟨rfl, k, hk, rfl, rfl⟩ := hrel
    by_cases hlt : k < 2
    · have hlt' : (k : Int) < 2 := by omega
      obtain ⟨x, hx⟩ : ∃ x, xs[k]? = some x := ⟨_, List.getElem?_eq_getElem (by have := hlen.out; omega)⟩
      have hc := hcs'.out k x hx
      have hxl := hxl'.out x (List.mem_of_getElem? hx)
      have hal := textT_len nm xs k hnl.out hxl'.out (by have := hlen.out; omega)
      have HXL : Hid (x.length ≤ 22 ∧ (textT nm (xs.take k)).length ≤ 2000) := ⟨hxl, hal⟩
      clear hxl hal
      cases k with
      | zero =>
        have HE : Hid (textT nm (xs.take (0 + 1)) = nm ++ 32 :: x) := textT_zero nm xs x hx
        have HX0 : Hid (textT nm (xs.take 0) = nm) := rfl
        rw [HX0.out] at HXL ⊢
        clear hx
        go_wp2_with (first | refine wpList_cat rfl _ _ rfl nm [32] rfl rfl (by have := HXL.out.2; simp; omega) ?_ | refine wpList_cat rfl _ _ rfl (nm ++ [32]) x rfl rfl (by have := HXL.out; simp; omega) ?_)
        go_roundw
        case rel => exact ⟨by first | trivial | rfl, 0 + 1, by omega, by go_num, by first | (rw [HE.out]; done) | (rw [HE.out]; congr 2; simp; done)⟩
        case measure => simp [intOf]
      | succ k =>
        have HE : Hid (textT nm (xs.take (k + 1 + 1)) = textT nm (xs.take (k + 1)) ++ [44, 32] ++ x) := textT_succ nm xs k x hx
        have hk0 : ¬ ((k + 1 : Nat) : Int) = 0 := by omega
        obtain ⟨A, hA⟩ : ∃ A, A = textT nm (xs.take (k + 1)) := ⟨_, rfl⟩
        rw [← hA] at HE HXL ⊢
        clear hA hx
        go_wp2_with (first | refine wpList_cat rfl _ _ rfl A [44, 32] rfl rfl (by have := HXL.out.2; simp; omega) ?_ | refine wpList_cat rfl _ _ rfl (A ++ [44, 32]) x rfl rfl (by have := HXL.out; simp; omega) ?_)
        go_roundw
        case rel => exact ⟨by first | trivial | rfl, k + 1 + 1, by omega, by go_num, by first | (rw [HE.out]; done) | (rw [HE.out]; congr 2; simp; done)⟩
        case measure => simp [intOf]; omega
    · obtain rfl : k = 2 := by omega
      have hfull : Hid (xs.take 2 = xs) := by show _ = _; rw [List.take_of_length_le]; have := hlen.out; omega
      go_wp2_with fail
      go_ret
      refine ⟨?_, hbel⟩
      rw [hpt.out]
      show Ending.returned (.string (str (textT nm (xs.take 2)))) = _
      rw [hfull.out]
set_option maxRecDepth 10000 in
set_option maxHeartbeats 2000000 in
theorem rtext_dsop (i : Ins) (n : Nat) (hop : i.op = n) (hn : n < 25) (w : World) (hm : i.may = true) (hu : i.imm < 4294967296) (h1 : useD n = true) (h2 : useS n = true) (h3 : useM n = false) (h4 : useO n = true) (h5 : useI n = true) (hsg : 0 ≤ i.off) :
    Calls Tryd.prog 23 #[.agg i.cells.toArray] w fun e w' => e = .returned (.string (str (textT (nameL n) (partsT true true false true i)))) ∧ Below w.heap.size w w' := by
  have _ := hu
  obtain ⟨⟨o1, o2⟩, ⟨d1, d2⟩, ⟨s1, s2⟩, ⟨f1, f2⟩⟩ := may_bounds hm
  have hnl : Hid ((nameL n).length ≤ 100) := by
    have key : ∀ j : Fin 25, (nameL j.val).length ≤ 100 := by decide +kernel
    exact key ⟨n, hn⟩
  have hrn := fun W => rname_yes n W h5 hn
  have hus := fun W => uses_any n W
  rw [h1, h2, h3, h4, h5] at hus
  generalize nameL n = nm at *
  have hTS0 : TS w (w.alloc (.cells #[.int .i64 n, .int .i64 i.dst, .int .i64 i.src, .int .i64 i.off, .int .u32 i.imm] 43)) #[.int .i64 n, .int .i64 i.dst, .int .i64 i.src, .int .i64 i.off, .int .u32 i.imm] (.slice none 0 0) [] := ⟨has_new _ _ _ _ rfl, World.ownsRow_nil _ _ _ _, (Below.refl _ _).alloc (Nat.le_refl _) _⟩
  have hcells : i.cells.toArray = #[.int .i64 n, .int .i64 i.dst, .int .i64 i.src, .int .i64 i.off, .int .u32 i.imm] := by rw [← hop]; rfl
  rw [hcells]
  obtain ⟨bx, hbx⟩ : ∃ bx : Array Value, bx = #[.int .i64 n, .int .i64 i.dst, .int .i64 i.src, .int .i64 i.off, .int .u32 i.imm] := ⟨_, rfl⟩
  have HBX : Hid (bx = #[.int .i64 n, .int .i64 i.dst, .int .i64 i.src, .int .i64 i.off, .int .u32 i.imm]) := hbx
  obtain ⟨W1, hW1⟩ : ∃ W1, W1 = w.alloc (.cells #[.int .i64 n, .int .i64 i.dst, .int .i64 i.src, .int .i64 i.off, .int .u32 i.imm] 43) := ⟨_, rfl⟩
  have hTS : TS w W1 bx (.slice none 0 0) [] := by rw [hbx, hW1]; exact hTS0
  clear hTS0 hcells hm hop hbx h1 h2 h3 h4 h5
  go_enter Tryd.func23, Tryd.ntmps23
  go_wp2_with fail
  rw [← hW1]
  clear hW1
  refine (hus W1).mono ?_
  rintro e w' ⟨rfl, hw⟩
  obtain rfl := hw
  clear hus
  have hbx' := hTS.box
  rw [HBX.out] at hbx'
  have y0 := hbx'.cell 0
  have y1 := hbx'.cell 1
  have y2 := hbx'.cell 2
  have y3 := hbx'.cell 3
  have y4 := hbx'.cell 4
  have hzW := hTS.box.lt
  go_wp2_with fail
  clear y0 y1 y2 y3 y4 hbx' hzW
  refine (digi_any i.dst d1 (by omega) W1).mono ?_
  rintro e Wc0 ⟨rfl, hBx⟩
  replace hTS := hTS.below hBx
  clear hBx
  have hcl : Hid (((Lib.decDigits i.dst.toNat)).length ≤ 22) := by show _ ≤ _; have := regL_len i.dst d1 d2; unfold regL at this; simp at this; omega
  have hTx := hTS.below (W' := Wc0.alloc (.cells #[(.string (str (114 :: Lib.decDigits i.dst.toNat)))] 9)) ((Below.refl _ _).alloc (Nat.le_refl _) _)
  have hHx : Has (Wc0.alloc (.cells #[(.string (str (114 :: Lib.decDigits i.dst.toNat)))] 9)) Wc0.heap.size #[sv (regL i.dst)] 9 := has_new _ _ _ _ rfl
  clear hTS
  go_wp2_with (first | refine wpList_cat rfl _ _ rfl [114] (Lib.decDigits i.dst.toNat) rfl rfl (by have := hcl.out; simp; omega) ?_ | (refine wpList_append_text rfl _ _ rfl Wc0.heap.size (regL i.dst) rfl rfl hTx hHx (by simp) ?_; intro v0 Wa0 hTS; clear hTx hHx; refine Hid.out ?_))
  refine Lib.hid ?_
  obtain ⟨a0, c0, hv0⟩ : ∃ a c, v0 = .slice a 1 c := by obtain ⟨a, c, h⟩ := hTS.slice; exact ⟨a, c, h⟩
  subst hv0
  clear hcl
  have hbx' := hTS.box
  rw [HBX.out] at hbx'
  have y0 := hbx'.cell 0
  have y1 := hbx'.cell 1
  have y2 := hbx'.cell 2
  have y3 := hbx'.cell 3
  have y4 := hbx'.cell 4
  have hzW := hTS.box.lt
  go_wp2_with fail
  clear y0 y1 y2 y3 y4 hbx' hzW
  refine (digi_any i.src s1 (by omega) Wa0).mono ?_
  rintro e Wc1 ⟨rfl, hBx⟩
  replace hTS := hTS.below hBx
  clear hBx
  have hcl : Hid (((Lib.decDigits i.src.toNat)).length ≤ 22) := by show _ ≤ _; have := regL_len i.src s1 s2; unfold regL at this; simp at this; omega
  have hTx := hTS.below (W' := Wc1.alloc (.cells #[(.string (str (114 :: Lib.decDigits i.src.toNat)))] 9)) ((Below.refl _ _).alloc (Nat.le_refl _) _)
  have hHx : Has (Wc1.alloc (.cells #[(.string (str (114 :: Lib.decDigits i.src.toNat)))] 9)) Wc1.heap.size #[sv (regL i.src)] 9 := has_new _ _ _ _ rfl
  clear hTS
  go_wp2_with (first | refine wpList_cat rfl _ _ rfl [114] (Lib.decDigits i.src.toNat) rfl rfl (by have := hcl.out; simp; omega) ?_ | (refine wpList_append_text rfl _ _ rfl Wc1.heap.size (regL i.src) rfl rfl hTx hHx (by simp) ?_; intro v1 Wa1 hTS; clear hTx hHx; refine Hid.out ?_))
  refine Lib.hid ?_
  obtain ⟨a1, c1, hv1⟩ : ∃ a c, v1 = .slice a 2 c := by obtain ⟨a, c, h⟩ := hTS.slice; exact ⟨a, c, h⟩
  subst hv1
  clear hcl
  have hbx' := hTS.box
  rw [HBX.out] at hbx'
  have y0 := hbx'.cell 0
  have y1 := hbx'.cell 1
  have y2 := hbx'.cell 2
  have y3 := hbx'.cell 3
  have y4 := hbx'.cell 4
  have hzW := hTS.box.lt
  go_wp2_with fail
  clear y0 y1 y2 y3 y4 hbx' hzW
  refine (digi_any i.off (by omega) (by omega) Wa1).mono ?_
  rintro e Wc2 ⟨rfl, hBx⟩
  replace hTS := hTS.below hBx
  clear hBx
  have hsx : Hid (str (43 :: (Lib.decDigits i.off.toNat)) = str (sgnL i.off)) := by show _ = _; rw [sgnL_pos hsg]
  have hcl : Hid (((Lib.decDigits i.off.toNat)).length ≤ 22) := by show _ ≤ _; have := sgnL_len i.off f1 f2; rw [sgnL_pos hsg] at this; simp at this; omega
  have hTx := hTS.below (W' := Wc2.alloc (.cells #[(.string (str (43 :: (Lib.decDigits i.off.toNat))))] 9)) ((Below.refl _ _).alloc (Nat.le_refl _) _)
  have hHx : Has (Wc2.alloc (.cells #[(.string (str (43 :: (Lib.decDigits i.off.toNat))))] 9)) Wc2.heap.size #[sv (sgnL i.off)] 9 := by rw [show sv (sgnL i.off) = (.string (str (43 :: (Lib.decDigits i.off.toNat)))) from by unfold sv; rw [← hsx.out]]; exact has_new _ _ _ _ rfl
  clear hTS
  go_wp2_with (first | refine wpList_cat rfl _ _ rfl [43] (Lib.decDigits i.off.toNat) rfl rfl (by have := hcl.out; simp; omega) ?_ | (refine wpList_append_text rfl _ _ rfl Wc2.heap.size (sgnL i.off) rfl rfl hTx hHx (by simp) ?_; intro v2 Wa2 hTS; clear hTx hHx; refine Hid.out ?_))
  refine Lib.hid ?_
  obtain ⟨a2, c2, hv2⟩ : ∃ a c, v2 = .slice a 3 c := by obtain ⟨a, c, h⟩ := hTS.slice; exact ⟨a, c, h⟩
  subst hv2
  clear hcl
  have hbx' := hTS.box
  rw [HBX.out] at hbx'
  have y0 := hbx'.cell 0
  have y1 := hbx'.cell 1
  have y2 := hbx'.cell 2
  have y3 := hbx'.cell 3
  have y4 := hbx'.cell 4
  have hzW := hTS.box.lt
  go_wp2_with fail
  refine (hrn Wa2).mono ?_
  rintro e Wn ⟨rfl, hBn⟩
  replace hTS := hTS.below hBn
  clear hrn hBn y0 y1 y2 y3 y4 hbx' hzW
  have hTS' : TS w Wn bx (.slice a2 3 c2) [regL i.dst, regL i.src, sgnL i.off] := hTS
  clear hTS
  obtain ⟨a, c, e0, hcell⟩ := row_open hTS'.own
  obtain ⟨g, hg, hcs⟩ := hcell (by simp)
  simp only [Value.slice.injEq] at e0
  obtain ⟨e0, e2, e1⟩ := e0
  clear e2
  subst hg
  subst e0
  have hbel := hTS'.bel
  have hxl : ∀ x ∈ ([regL i.dst, regL i.src, sgnL i.off] : List (List UInt8)), x.length ≤ 22 := by intro x hx; simp at hx; rcases hx with rfl | rfl | rfl <;> first | exact regL_len _ (by assumption) (by assumption) | exact sgnL_len _ (by assumption) (by assumption) | (have := dec_len i.imm hu; omega)
  have hpt : Hid (partsT true true false true i = [regL i.dst, regL i.src, sgnL i.off]) := rfl
  have hcs' : Hid (∀ j x, ([regL i.dst, regL i.src, sgnL i.off] : List (List UInt8))[j]? = some x → Wn.cell? ⟨g, j, none⟩ = some (.string (str x))) := fun j x hx => hcs j _ (by rw [List.getElem?_map, hx]; rfl)
  have hxl' : Hid (∀ x ∈ ([regL i.dst, regL i.src, sgnL i.off] : List (List UInt8)), x.length ≤ 22) := hxl
  have hlen : Hid (([regL i.dst, regL i.src, sgnL i.off] : List (List UInt8)).length = 3) := rfl
  clear hcs hcell hxl hTS' e1
  generalize hxs : ([regL i.dst, regL i.src, sgnL i.off] : List (List UInt8)) = xs at *
  clear hxs
  go_wp2_with fail
  go_loopw [10, 9] (fun iv ov wr => wr = Wn ∧ ∃ k : Nat, k ≤ 3 ∧ iv = .int .i64 k ∧ ov = .string (str (textT nm (xs.take k)))) (fun iv _ _ => 3 - (intOf iv).toNat)
  case atStart => exact ⟨rfl, 0, Nat.zero_le _, rfl, rfl⟩
  case round =>
    obtain ⟨rfl, k, hk, rfl, rfl⟩ := hrel
    by_cases hlt : k < 3
    · have hlt' : (k : Int) < 3 := by omega
      obtain ⟨x, hx⟩ : ∃ x, xs[k]? = some x := ⟨_, List.getElem?_eq_getElem (by have := hlen.out; omega)⟩
      have hc := hcs'.out k x hx
      have hxl := hxl'.out x (List.mem_of_getElem? hx)
      have hal := textT_len nm xs k hnl.out hxl'.out (by have := hlen.out; omega)
      have HXL : Hid (x.length ≤ 22 ∧ (textT nm (xs.take k)).length ≤ 2000) := ⟨hxl, hal⟩
      clear hxl hal
      cases k with
      | zero =>
        have HE : Hid (textT nm (xs.take (0 + 1)) = nm ++ 32 :: x) := textT_zero nm xs x hx
        have HX0 : Hid (textT nm (xs.take 0) = nm) := rfl
        rw [HX0.out] at HXL ⊢
        clear hx
        go_wp2_with (first | refine wpList_cat rfl _ _ rfl nm [32] rfl rfl (by have := HXL.out.2; simp; omega) ?_ | refine wpList_cat rfl _ _ rfl (nm ++ [32]) x rfl rfl (by have := HXL.out; simp; omega) ?_)
        go_roundw
        case rel => exact ⟨by first | trivial | rfl, 0 + 1, by omega, by go_num, by first | (rw [HE.out]; done) | (rw [HE.out]; congr 2; simp; done)⟩
        case measure => simp [intOf]
      | succ k =>
        have HE : Hid (textT nm (xs.take (k + 1 + 1)) = textT nm (xs.take (k + 1)) ++ [44, 32] ++ x) := textT_succ nm xs k x hx
        have hk0 : ¬ ((k + 1 : Nat) : Int) = 0 := by omega
        obtain ⟨A, hA⟩ : ∃ A, A = textT nm (xs.take (k + 1)) := ⟨_, rfl⟩
        rw [← hA] at HE HXL ⊢
        clear hA hx
        go_wp2_with (first | refine wpList_cat rfl _ _ rfl A [44, 32] rfl rfl (by have := HXL.out.2; simp; omega) ?_ | refine wpList_cat rfl _ _ rfl (A ++ [44, 32]) x rfl rfl (by have := HXL.out; simp; omega) ?_)
        go_roundw
        case rel => exact ⟨by first | trivial | rfl, k + 1 + 1, by omega, by go_num, by first | (rw [HE.out]; done) | (rw [HE.out]; congr 2; simp; done)⟩
        case measure => simp [intOf]; omega
    · obtain rfl : k = 3 := by omega
      have hfull : Hid (xs.take 3 = xs) := by show _ = _; rw [List.take_of_length_le]; have := hlen.out; omega
      go_wp2_with fail
      go_ret
      refine ⟨?_, hbel⟩
      rw [hpt.out]
      show Ending.returned (.string (str (textT nm (xs.take 3)))) = _
      rw [hfull.out]
set_option maxRecDepth 10000 in
set_option maxHeartbeats 2000000 in
theorem rtext_dson (i : Ins) (n : Nat) (hop : i.op = n) (hn : n < 25) (w : World) (hm : i.may = true) (hu : i.imm < 4294967296) (h1 : useD n = true) (h2 : useS n = true) (h3 : useM n = false) (h4 : useO n = true) (h5 : useI n = true) (hsg : i.off < 0) :
    Calls Tryd.prog 23 #[.agg i.cells.toArray] w fun e w' => e = .returned (.string (str (textT (nameL n) (partsT true true false true i)))) ∧ Below w.heap.size w w' := by
  have _ := hu
  obtain ⟨⟨o1, o2⟩, ⟨d1, d2⟩, ⟨s1, s2⟩, ⟨f1, f2⟩⟩ := may_bounds hm
  have hnl : Hid ((nameL n).length ≤ 100) := by
    have key : ∀ j : Fin 25, (nameL j.val).length ≤ 100 := by decide +kernel
    exact key ⟨n, hn⟩
  have hrn := fun W => rname_yes n W h5 hn
  have hus := fun W => uses_any n W
  rw [h1, h2, h3, h4, h5] at hus
  generalize nameL n = nm at *
  have hTS0 : TS w (w.alloc (.cells #[.int .i64 n, .int .i64 i.dst, .int .i64 i.src, .int .i64 i.off, .int .u32 i.imm] 43)) #[.int .i64 n, .int .i64 i.dst, .int .i64 i.src, .int .i64 i.off, .int .u32 i.imm] (.slice none 0 0) [] := ⟨has_new _ _ _ _ rfl, World.ownsRow_nil _ _ _ _, (Below.refl _ _).alloc (Nat.le_refl _) _⟩
  have hcells : i.cells.toArray = #[.int .i64 n, .int .i64 i.dst, .int .i64 i.src, .int .i64 i.off, .int .u32 i.imm] := by rw [← hop]; rfl
  rw [hcells]
  obtain ⟨bx, hbx⟩ : ∃ bx : Array Value, bx = #[.int .i64 n, .int .i64 i.dst, .int .i64 i.src, .int .i64 i.off, .int .u32 i.imm] := ⟨_, rfl⟩
  have HBX : Hid (bx = #[.int .i64 n, .int .i64 i.dst, .int .i64 i.src, .int .i64 i.off, .int .u32 i.imm]) := hbx
  obtain ⟨W1, hW1⟩ : ∃ W1, W1 = w.alloc (.cells #[.int .i64 n, .int .i64 i.dst, .int .i64 i.src, .int .i64 i.off, .int .u32 i.imm] 43) := ⟨_, rfl⟩
  have hTS : TS w W1 bx (.slice none 0 0) [] := by rw [hbx, hW1]; exact hTS0
  clear hTS0 hcells hm hop hbx h1 h2 h3 h4 h5
  go_enter Tryd.func23, Tryd.ntmps23
  go_wp2_with fail
  rw [← hW1]
  clear hW1
  refine (hus W1).mono ?_
  rintro e w' ⟨rfl, hw⟩
  obtain rfl := hw
  clear hus
  have hbx' := hTS.box
  rw [HBX.out] at hbx'
  have y0 := hbx'.cell 0
  have y1 := hbx'.cell 1
  have y2 := hbx'.cell 2
  have y3 := hbx'.cell 3
  have y4 := hbx'.cell 4
  have hzW := hTS.box.lt
  go_wp2_with fail
  clear y0 y1 y2 y3 y4 hbx' hzW
  refine (digi_any i.dst d1 (by omega) W1).mono ?_
  rintro e Wc0 ⟨rfl, hBx⟩
  replace hTS := hTS.below hBx
  clear hBx
  have hcl : Hid (((Lib.decDigits i.dst.toNat)).length ≤ 22) := by show _ ≤ _; have := regL_len i.dst d1 d2; unfold regL at this; simp at this; omega
  have hTx := hTS.below (W' := Wc0.alloc (.cells #[(.string (str (114 :: Lib.decDigits i.dst.toNat)))] 9)) ((Below.refl _ _).alloc (Nat.le_refl _) _)
  have hHx : Has (Wc0.alloc (.cells #[(.string (str (114 :: Lib.decDigits i.dst.toNat)))] 9)) Wc0.heap.size #[sv (regL i.dst)] 9 := has_new _ _ _ _ rfl
  clear hTS
  go_wp2_with (first | refine wpList_cat rfl _ _ rfl [114] (Lib.decDigits i.dst.toNat) rfl rfl (by have := hcl.out; simp; omega) ?_ | (refine wpList_append_text rfl _ _ rfl Wc0.heap.size (regL i.dst) rfl rfl hTx hHx (by simp) ?_; intro v0 Wa0 hTS; clear hTx hHx; refine Hid.out ?_))
  refine Lib.hid ?_
  obtain ⟨a0, c0, hv0⟩ : ∃ a c, v0 = .slice a 1 c := by obtain ⟨a, c, h⟩ := hTS.slice; exact ⟨a, c, h⟩
  subst hv0
  clear hcl
  have hbx' := hTS.box
  rw [HBX.out] at hbx'
  have y0 := hbx'.cell 0
  have y1 := hbx'.cell 1
  have y2 := hbx'.cell 2
  have y3 := hbx'.cell 3
  have y4 := hbx'.cell 4
  have hzW := hTS.box.lt
  go_wp2_with fail
  clear y0 y1 y2 y3 y4 hbx' hzW
  refine (digi_any i.src s1 (by omega) Wa0).mono ?_
  rintro e Wc1 ⟨rfl, hBx⟩
  replace hTS := hTS.below hBx
  clear hBx
  have hcl : Hid (((Lib.decDigits i.src.toNat)).length ≤ 22) := by show _ ≤ _; have := regL_len i.src s1 s2; unfold regL at this; simp at this; omega
  have hTx := hTS.below (W' := Wc1.alloc (.cells #[(.string (str (114 :: Lib.decDigits i.src.toNat)))] 9)) ((Below.refl _ _).alloc (Nat.le_refl _) _)
  have hHx : Has (Wc1.alloc (.cells #[(.string (str (114 :: Lib.decDigits i.src.toNat)))] 9)) Wc1.heap.size #[sv (regL i.src)] 9 := has_new _ _ _ _ rfl
  clear hTS
  go_wp2_with (first | refine wpList_cat rfl _ _ rfl [114] (Lib.decDigits i.src.toNat) rfl rfl (by have := hcl.out; simp; omega) ?_ | (refine wpList_append_text rfl _ _ rfl Wc1.heap.size (regL i.src) rfl rfl hTx hHx (by simp) ?_; intro v1 Wa1 hTS; clear hTx hHx; refine Hid.out ?_))
  refine Lib.hid ?_
  obtain ⟨a1, c1, hv1⟩ : ∃ a c, v1 = .slice a 2 c := by obtain ⟨a, c, h⟩ := hTS.slice; exact ⟨a, c, h⟩
  subst hv1
  clear hcl
  have hbx' := hTS.box
  rw [HBX.out] at hbx'
  have y0 := hbx'.cell 0
  have y1 := hbx'.cell 1
  have y2 := hbx'.cell 2
  have y3 := hbx'.cell 3
  have y4 := hbx'.cell 4
  have hzW := hTS.box.lt
  go_wp2_with fail
  clear y0 y1 y2 y3 y4 hbx' hzW
  refine (digi_any (-i.off) (by omega) (by omega) Wa1).mono ?_
  rintro e Wc2 ⟨rfl, hBx⟩
  replace hTS := hTS.below hBx
  clear hBx
  have hsx : Hid (str (45 :: (Lib.decDigits (-i.off).toNat)) = str (sgnL i.off)) := by show _ = _; rw [sgnL_neg hsg]
  have hcl : Hid (((Lib.decDigits (-i.off).toNat)).length ≤ 22) := by show _ ≤ _; have := sgnL_len i.off f1 f2; rw [sgnL_neg hsg] at this; simp at this; omega
  have hTx := hTS.below (W' := Wc2.alloc (.cells #[(.string (str (45 :: (Lib.decDigits (-i.off).toNat))))] 9)) ((Below.refl _ _).alloc (Nat.le_refl _) _)
  have hHx : Has (Wc2.alloc (.cells #[(.string (str (45 :: (Lib.decDigits (-i.off).toNat))))] 9)) Wc2.heap.size #[sv (sgnL i.off)] 9 := by rw [show sv (sgnL i.off) = (.string (str (45 :: (Lib.decDigits (-i.off).toNat)))) from by unfold sv; rw [← hsx.out]]; exact has_new _ _ _ _ rfl
  clear hTS
  go_wp2_with (first | refine wpList_cat rfl _ _ rfl [45] (Lib.decDigits (-i.off).toNat) rfl rfl (by have := hcl.out; simp; omega) ?_ | (refine wpList_append_text rfl _ _ rfl Wc2.heap.size (sgnL i.off) rfl rfl hTx hHx (by simp) ?_; intro v2 Wa2 hTS; clear hTx hHx; refine Hid.out ?_))
  refine Lib.hid ?_
  obtain ⟨a2, c2, hv2⟩ : ∃ a c, v2 = .slice a 3 c := by obtain ⟨a, c, h⟩ := hTS.slice; exact ⟨a, c, h⟩
  subst hv2
  clear hcl
  have hbx' := hTS.box
  rw [HBX.out] at hbx'
  have y0 := hbx'.cell 0
  have y1 := hbx'.cell 1
  have y2 := hbx'.cell 2
  have y3 := hbx'.cell 3
  have y4 := hbx'.cell 4
  have hzW := hTS.box.lt
  go_wp2_with fail
  refine (hrn Wa2).mono ?_
  rintro e Wn ⟨rfl, hBn⟩
  replace hTS := hTS.below hBn
  clear hrn hBn y0 y1 y2 y3 y4 hbx' hzW
  have hTS' : TS w Wn bx (.slice a2 3 c2) [regL i.dst, regL i.src, sgnL i.off] := hTS
  clear hTS
  obtain ⟨a, c, e0, hcell⟩ := row_open hTS'.own
  obtain ⟨g, hg, hcs⟩ := hcell (by simp)
  simp only [Value.slice.injEq] at e0
  obtain ⟨e0, e2, e1⟩ := e0
  clear e2
  subst hg
  subst e0
  have hbel := hTS'.bel
  have hxl : ∀ x ∈ ([regL i.dst, regL i.src, sgnL i.off] : List (List UInt8)), x.length ≤ 22 := by intro x hx; simp at hx; rcases hx with rfl | rfl | rfl <;> first | exact regL_len _ (by assumption) (by assumption) | exact sgnL_len _ (by assumption) (by assumption) | (have := dec_len i.imm hu; omega)
  have hpt : Hid (partsT true true false true i = [regL i.dst, regL i.src, sgnL i.off]) := rfl
  have hcs' : Hid (∀ j x, ([regL i.dst, regL i.src, sgnL i.off] : List (List UInt8))[j]? = some x → Wn.cell? ⟨g, j, none⟩ = some (.string (str x))) := fun j x hx => hcs j _ (by rw [List.getElem?_map, hx]; rfl)
  have hxl' : Hid (∀ x ∈ ([regL i.dst, regL i.src, sgnL i.off] : List (List UInt8)), x.length ≤ 22) := hxl
  have hlen : Hid (([regL i.dst, regL i.src, sgnL i.off] : List (List UInt8)).length = 3) := rfl
  clear hcs hcell hxl hTS' e1
  generalize hxs : ([regL i.dst, regL i.src, sgnL i.off] : List (List UInt8)) = xs at *
  clear hxs
  go_wp2_with fail
  go_loopw [10, 9] (fun iv ov wr => wr = Wn ∧ ∃ k : Nat, k ≤ 3 ∧ iv = .int .i64 k ∧ ov = .string (str (textT nm (xs.take k)))) (fun iv _ _ => 3 - (intOf iv).toNat)
  case atStart => exact ⟨rfl, 0, Nat.zero_le _, rfl, rfl⟩
  case round =>
    obtain ⟨rfl, k, hk, rfl, rfl⟩ := hrel
    by_cases hlt : k < 3
    · have hlt' : (k : Int) < 3 := by omega
      obtain ⟨x, hx⟩ : ∃ x, xs[k]? = some x := ⟨_, List.getElem?_eq_getElem (by have := hlen.out; omega)⟩
      have hc := hcs'.out k x hx
      have hxl := hxl'.out x (List.mem_of_getElem? hx)
      have hal := textT_len nm xs k hnl.out hxl'.out (by have := hlen.out; omega)
      have HXL : Hid (x.length ≤ 22 ∧ (textT nm (xs.take k)).length ≤ 2000) := ⟨hxl, hal⟩
      clear hxl hal
      cases k with
      | zero =>
        have HE : Hid (textT nm (xs.take (0 + 1)) = nm ++ 32 :: x) := textT_zero nm xs x hx
        have HX0 : Hid (textT nm (xs.take 0) = nm) := rfl
        rw [HX0.out] at HXL ⊢
        clear hx
        go_wp2_with (first | refine wpList_cat rfl _ _ rfl nm [32] rfl rfl (by have := HXL.out.2; simp; omega) ?_ | refine wpList_cat rfl _ _ rfl (nm ++ [32]) x rfl rfl (by have := HXL.out; simp; omega) ?_)
        go_roundw
        case rel => exact ⟨by first | trivial | rfl, 0 + 1, by omega, by go_num, by first | (rw [HE.out]; done) | (rw [HE.out]; congr 2; simp; done)⟩
        case measure => simp [intOf]
      | succ k =>
        have HE : Hid (textT nm (xs.take (k + 1 + 1)) = textT nm (xs.take (k + 1)) ++ [44, 32] ++ x) := textT_succ nm xs k x hx
        have hk0 : ¬ ((k + 1 : Nat) : Int) = 0 := by omega
        obtain ⟨A, hA⟩ : ∃ A, A = textT nm (xs.take (k + 1)) := ⟨_, rfl⟩
        rw [← hA] at HE HXL ⊢
        clear hA hx
        go_wp2_with (first | refine wpList_cat rfl _ _ rfl A [44, 32] rfl rfl (by have := HXL.out.2; simp; omega) ?_ | refine wpList_cat rfl _ _ rfl (A ++ [44, 32]) x rfl rfl (by have := HXL.out; simp; omega) ?_)
        go_roundw
        case rel => exact ⟨by first | trivial | rfl, k + 1 + 1, by omega, by go_num, by first | (rw [HE.out]; done) | (rw [HE.out]; congr 2; simp; done)⟩
        case measure => simp [intOf]; omega
    · obtain rfl : k = 3 := by omega
      have hfull : Hid (xs.take 3 = xs) := by show _ = _; rw [List.take_of_length_le]; have := hlen.out; omega
      go_wp2_with fail
      go_ret
      refine ⟨?_, hbel⟩
      rw [hpt.out]
      show Ending.returned (.string (str (textT nm (xs.take 3)))) = _
      rw [hfull.out]
set_option maxRecDepth 10000 in
set_option maxHeartbeats 2000000 in
theorem rtext_op (i : Ins) (n : Nat) (hop : i.op = n) (hn : n < 25) (w : World) (hm : i.may = true) (hu : i.imm < 4294967296) (h1 : useD n = false) (h2 : useS n = false) (h3 : useM n = false) (h4 : useO n = true) (h5 : useI n = true) (hsg : 0 ≤ i.off) :
    Calls Tryd.prog 23 #[.agg i.cells.toArray] w fun e w' => e = .returned (.string (str (textT (nameL n) (partsT false false false true i)))) ∧ Below w.heap.size w w' := by
  have _ := hu
  obtain ⟨⟨o1, o2⟩, ⟨d1, d2⟩, ⟨s1, s2⟩, ⟨f1, f2⟩⟩ := may_bounds hm
  have hnl : Hid ((nameL n).length ≤ 100) := by
    have key : ∀ j : Fin 25, (nameL j.val).length ≤ 100 := by decide +kernel
    exact key ⟨n, hn⟩
  have hrn := fun W => rname_yes n W h5 hn
  have hus := fun W => uses_any n W
  rw [h1, h2, h3, h4, h5] at hus
  generalize nameL n = nm at *
  have hTS0 : TS w (w.alloc (.cells #[.int .i64 n, .int .i64 i.dst, .int .i64 i.src, .int .i64 i.off, .int .u32 i.imm] 43)) #[.int .i64 n, .int .i64 i.dst, .int .i64 i.src, .int .i64 i.off, .int .u32 i.imm] (.slice none 0 0) [] := ⟨has_new _ _ _ _ rfl, World.ownsRow_nil _ _ _ _, (Below.refl _ _).alloc (Nat.le_refl _) _⟩
  have hcells : i.cells.toArray = #[.int .i64 n, .int .i64 i.dst, .int .i64 i.src, .int .i64 i.off, .int .u32 i.imm] := by rw [← hop]; rfl
  rw [hcells]
  obtain ⟨bx, hbx⟩ : ∃ bx : Array Value, bx = #[.int .i64 n, .int .i64 i.dst, .int .i64 i.src, .int .i64 i.off, .int .u32 i.imm] := ⟨_, rfl⟩
  have HBX : Hid (bx = #[.int .i64 n, .int .i64 i.dst, .int .i64 i.src, .int .i64 i.off, .int .u32 i.imm]) := hbx
  obtain ⟨W1, hW1⟩ : ∃ W1, W1 = w.alloc (.cells #[.int .i64 n, .int .i64 i.dst, .int .i64 i.src, .int .i64 i.off, .int .u32 i.imm] 43) := ⟨_, rfl⟩
  have hTS : TS w W1 bx (.slice none 0 0) [] := by rw [hbx, hW1]; exact hTS0
  clear hTS0 hcells hm hop hbx h1 h2 h3 h4 h5
  go_enter Tryd.func23, Tryd.ntmps23
  go_wp2_with fail
  rw [← hW1]
  clear hW1
  refine (hus W1).mono ?_
  rintro e w' ⟨rfl, hw⟩
  obtain rfl := hw
  clear hus
  have hbx' := hTS.box
  rw [HBX.out] at hbx'
  have y0 := hbx'.cell 0
  have y1 := hbx'.cell 1
  have y2 := hbx'.cell 2
  have y3 := hbx'.cell 3
  have y4 := hbx'.cell 4
  have hzW := hTS.box.lt
  go_wp2_with fail
  clear y0 y1 y2 y3 y4 hbx' hzW
  refine (digi_any i.off (by omega) (by omega) W1).mono ?_
  rintro e Wc0 ⟨rfl, hBx⟩
  replace hTS := hTS.below hBx
  clear hBx
  have hsx : Hid (str (43 :: (Lib.decDigits i.off.toNat)) = str (sgnL i.off)) := by show _ = _; rw [sgnL_pos hsg]
  have hcl : Hid (((Lib.decDigits i.off.toNat)).length ≤ 22) := by show _ ≤ _; have := sgnL_len i.off f1 f2; rw [sgnL_pos hsg] at this; simp at this; omega
  have hTx := hTS.below (W' := Wc0.alloc (.cells #[(.string (str (43 :: (Lib.decDigits i.off.toNat))))] 9)) ((Below.refl _ _).alloc (Nat.le_refl _) _)
  have hHx : Has (Wc0.alloc (.cells #[(.string (str (43 :: (Lib.decDigits i.off.toNat))))] 9)) Wc0.heap.size #[sv (sgnL i.off)] 9 := by rw [show sv (sgnL i.off) = (.string (str (43 :: (Lib.decDigits i.off.toNat)))) from by unfold sv; rw [← hsx.out]]; exact has_new _ _ _ _ rfl
  clear hTS
  go_wp2_with (first | refine wpList_cat rfl _ _ rfl [43] (Lib.decDigits i.off.toNat) rfl rfl (by have := hcl.out; simp; omega) ?_ | (refine wpList_append_text rfl _ _ rfl Wc0.heap.size (sgnL i.off) rfl rfl hTx hHx (by simp) ?_; intro v0 Wa0 hTS; clear hTx hHx; refine Hid.out ?_))
  refine Lib.hid ?_
  obtain ⟨a0, c0, hv0⟩ : ∃ a c, v0 = .slice a 1 c := by obtain ⟨a, c, h⟩ := hTS.slice; exact ⟨a, c, h⟩
  subst hv0
  clear hcl
  have hbx' := hTS.box
  rw [HBX.out] at hbx'
  have y0 := hbx'.cell 0
  have y1 := hbx'.cell 1
  have y2 := hbx'.cell 2
  have y3 := hbx'.cell 3
  have y4 := hbx'.cell 4
  have hzW := hTS.box.lt
  go_wp2_with fail
  refine (hrn Wa0).mono ?_
  rintro e Wn ⟨rfl, hBn⟩
  replace hTS := hTS.below hBn
  clear hrn hBn y0 y1 y2 y3 y4 hbx' hzW
  have hTS' : TS w Wn bx (.slice a0 1 c0) [sgnL i.off] := hTS
  clear hTS
  obtain ⟨a, c, e0, hcell⟩ := row_open hTS'.own
  obtain ⟨g, hg, hcs⟩ := hcell (by simp)
  simp only [Value.slice.injEq] at e0
  obtain ⟨e0, e2, e1⟩ := e0
  clear e2
  subst hg
  subst e0
  have hbel := hTS'.bel
  have hxl : ∀ x ∈ ([sgnL i.off] : List (List UInt8)), x.length ≤ 22 := by intro x hx; simp at hx; rcases hx with rfl <;> first | exact regL_len _ (by assumption) (by assumption) | exact sgnL_len _ (by assumption) (by assumption) | (have := dec_len i.imm hu; omega)
  have hpt : Hid (partsT false false false true i = [sgnL i.off]) := rfl
  have hcs' : Hid (∀ j x, ([sgnL i.off] : List (List UInt8))[j]? = some x → Wn.cell? ⟨g, j, none⟩ = some (.string (str x))) := fun j x hx => hcs j _ (by rw [List.getElem?_map, hx]; rfl)
  have hxl' : Hid (∀ x ∈ ([sgnL i.off] : List (List UInt8)), x.length ≤ 22) := hxl
  have hlen : Hid (([sgnL i.off] : List (List UInt8)).length = 1) := rfl
  clear hcs hcell hxl hTS' e1
  generalize hxs : ([sgnL i.off] : List (List UInt8)) = xs at *
  clear hxs
  go_wp2_with fail
  go_loopw [10, 9] (fun iv ov wr => wr = Wn ∧ ∃ k : Nat, k ≤ 1 ∧ iv = .int .i64 k ∧ ov = .string (str (textT nm (xs.take k)))) (fun iv _ _ => 1 - (intOf iv).toNat)
  case atStart => exact ⟨rfl, 0, Nat.zero_le _, rfl, rfl⟩
  case round =>
    obtain ⟨rfl, k, hk, rfl, rfl⟩ := hrel
    by_cases hlt : k < 1
    · have hlt' : (k : Int) < 1 := by omega
      obtain ⟨x, hx⟩ : ∃ x, xs[k]? = some x := ⟨_, List.getElem?_eq_getElem (by have := hlen.out; omega)⟩
      have hc := hcs'.out k x hx
      have hxl := hxl'.out x (List.mem_of_getElem? hx)
      have hal := textT_len nm xs k hnl.out hxl'.out (by have := hlen.out; omega)
      have HXL : Hid (x.length ≤ 22 ∧ (textT nm (xs.take k)).length ≤ 2000) := ⟨hxl, hal⟩
      clear hxl hal
      cases k with
      | zero =>
        have HE : Hid (textT nm (xs.take (0 + 1)) = nm ++ 32 :: x) := textT_zero nm xs x hx
        have HX0 : Hid (textT nm (xs.take 0) = nm) := rfl
        rw [HX0.out] at HXL ⊢
        clear hx
        go_wp2_with (first | refine wpList_cat rfl _ _ rfl nm [32] rfl rfl (by have := HXL.out.2; simp; omega) ?_ | refine wpList_cat rfl _ _ rfl (nm ++ [32]) x rfl rfl (by have := HXL.out; simp; omega) ?_)
        go_roundw
        case rel => exact ⟨by first | trivial | rfl, 0 + 1, by omega, by go_num, by first | (rw [HE.out]; done) | (rw [HE.out]; congr 2; simp; done)⟩
        case measure => simp [intOf]
      | succ k => exact absurd hlt (by omega)
    · obtain rfl : k = 1 := by omega
      have hfull : Hid (xs.take 1 = xs) := by show _ = _; rw [List.take_of_length_le]; have := hlen.out; omega
      go_wp2_with fail
      go_ret
      refine ⟨?_, hbel⟩
      rw [hpt.out]
      show Ending.returned (.string (str (textT nm (xs.take 1)))) = _
      rw [hfull.out]
set_option maxRecDepth 10000 in
set_option maxHeartbeats 2000000 in
theorem rtext_on (i : Ins) (n : Nat) (hop : i.op = n) (hn : n < 25) (w : World) (hm : i.may = true) (hu : i.imm < 4294967296) (h1 : useD n = false) (h2 : useS n = false) (h3 : useM n = false) (h4 : useO n = true) (h5 : useI n = true) (hsg : i.off < 0) :
    Calls Tryd.prog 23 #[.agg i.cells.toArray] w fun e w' => e = .returned (.string (str (textT (nameL n) (partsT false false false true i)))) ∧ Below w.heap.size w w' := by
  have _ := hu
  obtain ⟨⟨o1, o2⟩, ⟨d1, d2⟩, ⟨s1, s2⟩, ⟨f1, f2⟩⟩ := may_bounds hm
  have hnl : Hid ((nameL n).length ≤ 100) := by
    have key : ∀ j : Fin 25, (nameL j.val).length ≤ 100 := by decide +kernel
    exact key ⟨n, hn⟩
  have hrn := fun W => rname_yes n W h5 hn
  have hus := fun W => uses_any n W
  rw [h1, h2, h3, h4, h5] at hus
  generalize nameL n = nm at *
  have hTS0 : TS w (w.alloc (.cells #[.int .i64 n, .int .i64 i.dst, .int .i64 i.src, .int .i64 i.off, .int .u32 i.imm] 43)) #[.int .i64 n, .int .i64 i.dst, .int .i64 i.src, .int .i64 i.off, .int .u32 i.imm] (.slice none 0 0) [] := ⟨has_new _ _ _ _ rfl, World.ownsRow_nil _ _ _ _, (Below.refl _ _).alloc (Nat.le_refl _) _⟩
  have hcells : i.cells.toArray = #[.int .i64 n, .int .i64 i.dst, .int .i64 i.src, .int .i64 i.off, .int .u32 i.imm] := by rw [← hop]; rfl
  rw [hcells]
  obtain ⟨bx, hbx⟩ : ∃ bx : Array Value, bx = #[.int .i64 n, .int .i64 i.dst, .int .i64 i.src, .int .i64 i.off, .int .u32 i.imm] := ⟨_, rfl⟩
  have HBX : Hid (bx = #[.int .i64 n, .int .i64 i.dst, .int .i64 i.src, .int .i64 i.off, .int .u32 i.imm]) := hbx
  obtain ⟨W1, hW1⟩ : ∃ W1, W1 = w.alloc (.cells #[.int .i64 n, .int .i64 i.dst, .int .i64 i.src, .int .i64 i.off, .int .u32 i.imm] 43) := ⟨_, rfl⟩
  have hTS : TS w W1 bx (.slice none 0 0) [] := by rw [hbx, hW1]; exact hTS0
  clear hTS0 hcells hm hop hbx h1 h2 h3 h4 h5
  go_enter Tryd.func23, Tryd.ntmps23
  go_wp2_with fail
  rw [← hW1]
  clear hW1
  refine (hus W1).mono ?_
  rintro e w' ⟨rfl, hw⟩
  obtain rfl := hw
  clear hus
  have hbx' := hTS.box
  rw [HBX.out] at hbx'
  have y0 := hbx'.cell 0
  have y1 := hbx'.cell 1
  have y2 := hbx'.cell 2
  have y3 := hbx'.cell 3
  have y4 := hbx'.cell 4
  have hzW := hTS.box.lt
  go_wp2_with fail
  clear y0 y1 y2 y3 y4 hbx' hzW
  refine (digi_any (-i.off) (by omega) (by omega) W1).mono ?_
  rintro e Wc0 ⟨rfl, hBx⟩
  replace hTS := hTS.below hBx
  clear hBx
  have hsx : Hid (str (45 :: (Lib.decDigits (-i.off).toNat)) = str (sgnL i.off)) := by show _ = _; rw [sgnL_neg hsg]
  have hcl : Hid (((Lib.decDigits (-i.off).toNat)).length ≤ 22) := by show _ ≤ _; have := sgnL_len i.off f1 f2; rw [sgnL_neg hsg] at this; simp at this; omega
  have hTx := hTS.below (W' := Wc0.alloc (.cells #[(.string (str (45 :: (Lib.decDigits (-i.off).toNat))))] 9)) ((Below.refl _ _).alloc (Nat.le_refl _) _)
  have hHx : Has (Wc0.alloc (.cells #[(.string (str (45 :: (Lib.decDigits (-i.off).toNat))))] 9)) Wc0.heap.size #[sv (sgnL i.off)] 9 := by rw [show sv (sgnL i.off) = (.string (str (45 :: (Lib.decDigits (-i.off).toNat)))) from by unfold sv; rw [← hsx.out]]; exact has_new _ _ _ _ rfl
  clear hTS
  go_wp2_with (first | refine wpList_cat rfl _ _ rfl [45] (Lib.decDigits (-i.off).toNat) rfl rfl (by have := hcl.out; simp; omega) ?_ | (refine wpList_append_text rfl _ _ rfl Wc0.heap.size (sgnL i.off) rfl rfl hTx hHx (by simp) ?_; intro v0 Wa0 hTS; clear hTx hHx; refine Hid.out ?_))
  refine Lib.hid ?_
  obtain ⟨a0, c0, hv0⟩ : ∃ a c, v0 = .slice a 1 c := by obtain ⟨a, c, h⟩ := hTS.slice; exact ⟨a, c, h⟩
  subst hv0
  clear hcl
  have hbx' := hTS.box
  rw [HBX.out] at hbx'
  have y0 := hbx'.cell 0
  have y1 := hbx'.cell 1
  have y2 := hbx'.cell 2
  have y3 := hbx'.cell 3
  have y4 := hbx'.cell 4
  have hzW := hTS.box.lt
  go_wp2_with fail
  refine (hrn Wa0).mono ?_
  rintro e Wn ⟨rfl, hBn⟩
  replace hTS := hTS.below hBn
  clear hrn hBn y0 y1 y2 y3 y4 hbx' hzW
  have hTS' : TS w Wn bx (.slice a0 1 c0) [sgnL i.off] := hTS
  clear hTS
  obtain ⟨a, c, e0, hcell⟩ := row_open hTS'.own
  obtain ⟨g, hg, hcs⟩ := hcell (by simp)
  simp only [Value.slice.injEq] at e0
  obtain ⟨e0, e2, e1⟩ := e0
  clear e2
  subst hg
  subst e0
  have hbel := hTS'.bel
  have hxl : ∀ x ∈ ([sgnL i.off] : List (List UInt8)), x.length ≤ 22 := by intro x hx; simp at hx; rcases hx with rfl <;> first | exact regL_len _ (by assumption) (by assumption) | exact sgnL_len _ (by assumption) (by assumption) | (have := dec_len i.imm hu; omega)
  have hpt : Hid (partsT false false false true i = [sgnL i.off]) := rfl
  have hcs' : Hid (∀ j x, ([sgnL i.off] : List (List UInt8))[j]? = some x → Wn.cell? ⟨g, j, none⟩ = some (.string (str x))) := fun j x hx => hcs j _ (by rw [List.getElem?_map, hx]; rfl)
  have hxl' : Hid (∀ x ∈ ([sgnL i.off] : List (List UInt8)), x.length ≤ 22) := hxl
  have hlen : Hid (([sgnL i.off] : List (List UInt8)).length = 1) := rfl
  clear hcs hcell hxl hTS' e1
  generalize hxs : ([sgnL i.off] : List (List UInt8)) = xs at *
  clear hxs
  go_wp2_with fail
  go_loopw [10, 9] (fun iv ov wr => wr = Wn ∧ ∃ k : Nat, k ≤ 1 ∧ iv = .int .i64 k ∧ ov = .string (str (textT nm (xs.take k)))) (fun iv _ _ => 1 - (intOf iv).toNat)
  case atStart => exact ⟨rfl, 0, Nat.zero_le _, rfl, rfl⟩
  case round =>
    obtain ⟨rfl, k, hk, rfl, rfl⟩ := hrel
    by_cases hlt : k < 1
    · have hlt' : (k : Int) < 1 := by omega
      obtain ⟨x, hx⟩ : ∃ x, xs[k]? = some x := ⟨_, List.getElem?_eq_getElem (by have := hlen.out; omega)⟩
      have hc := hcs'.out k x hx
      have hxl := hxl'.out x (List.mem_of_getElem? hx)
      have hal := textT_len nm xs k hnl.out hxl'.out (by have := hlen.out; omega)
      have HXL : Hid (x.length ≤ 22 ∧ (textT nm (xs.take k)).length ≤ 2000) := ⟨hxl, hal⟩
      clear hxl hal
      cases k with
      | zero =>
        have HE : Hid (textT nm (xs.take (0 + 1)) = nm ++ 32 :: x) := textT_zero nm xs x hx
        have HX0 : Hid (textT nm (xs.take 0) = nm) := rfl
        rw [HX0.out] at HXL ⊢
        clear hx
        go_wp2_with (first | refine wpList_cat rfl _ _ rfl nm [32] rfl rfl (by have := HXL.out.2; simp; omega) ?_ | refine wpList_cat rfl _ _ rfl (nm ++ [32]) x rfl rfl (by have := HXL.out; simp; omega) ?_)
        go_roundw
        case rel => exact ⟨by first | trivial | rfl, 0 + 1, by omega, by go_num, by first | (rw [HE.out]; done) | (rw [HE.out]; congr 2; simp; done)⟩
        case measure => simp [intOf]
      | succ k => exact absurd hlt (by omega)
    · obtain rfl : k = 1 := by omega
      have hfull : Hid (xs.take 1 = xs) := by show _ = _; rw [List.take_of_length_le]; have := hlen.out; omega
      go_wp2_with fail
      go_ret
      refine ⟨?_, hbel⟩
      rw [hpt.out]
      show Ending.returned (.string (str (textT nm (xs.take 1)))) = _
      rw [hfull.out]
set_option maxRecDepth 10000 in
set_option maxHeartbeats 2000000 in
theorem rtext_dmop (i : Ins) (n : Nat) (hop : i.op = n) (hn : n < 25) (w : World) (hm : i.may = true) (hu : i.imm < 4294967296) (h1 : useD n = true) (h2 : useS n = false) (h3 : useM n = true) (h4 : useO n = true) (h5 : useI n = true) (hsg : 0 ≤ i.off) :
    Calls Tryd.prog 23 #[.agg i.cells.toArray] w fun e w' => e = .returned (.string (str (textT (nameL n) (partsT true false true true i)))) ∧ Below w.heap.size w w' := by
  have _ := hu
  obtain ⟨⟨o1, o2⟩, ⟨d1, d2⟩, ⟨s1, s2⟩, ⟨f1, f2⟩⟩ := may_bounds hm
  have hnl : Hid ((nameL n).length ≤ 100) := by
    have key : ∀ j : Fin 25, (nameL j.val).length ≤ 100 := by decide +kernel
    exact key ⟨n, hn⟩
  have hrn := fun W => rname_yes n W h5 hn
  have hus := fun W => uses_any n W
  rw [h1, h2, h3, h4, h5] at hus
  generalize nameL n = nm at *
  have hTS0 : TS w (w.alloc (.cells #[.int .i64 n, .int .i64 i.dst, .int .i64 i.src, .int .i64 i.off, .int .u32 i.imm] 43)) #[.int .i64 n, .int .i64 i.dst, .int .i64 i.src, .int .i64 i.off, .int .u32 i.imm] (.slice none 0 0) [] := ⟨has_new _ _ _ _ rfl, World.ownsRow_nil _ _ _ _, (Below.refl _ _).alloc (Nat.le_refl _) _⟩
  have hcells : i.cells.toArray = #[.int .i64 n, .int .i64 i.dst, .int .i64 i.src, .int .i64 i.off, .int .u32 i.imm] := by rw [← hop]; rfl
  rw [hcells]
  obtain ⟨bx, hbx⟩ : ∃ bx : Array Value, bx = #[.int .i64 n, .int .i64 i.dst, .int .i64 i.src, .int .i64 i.off, .int .u32 i.imm] := ⟨_, rfl⟩
  have HBX : Hid (bx = #[.int .i64 n, .int .i64 i.dst, .int .i64 i.src, .int .i64 i.off, .int .u32 i.imm]) := hbx
  obtain ⟨W1, hW1⟩ : ∃ W1, W1 = w.alloc (.cells #[.int .i64 n, .int .i64 i.dst, .int .i64 i.src, .int .i64 i.off, .int .u32 i.imm] 43) := ⟨_, rfl⟩
  have hTS : TS w W1 bx (.slice none 0 0) [] := by rw [hbx, hW1]; exact hTS0
  clear hTS0 hcells hm hop hbx h1 h2 h3 h4 h5
  go_enter Tryd.func23, Tryd.ntmps23
  go_wp2_with fail
  rw [← hW1]
  clear hW1
  refine (hus W1).mono ?_
  rintro e w' ⟨rfl, hw⟩
  obtain rfl := hw
  clear hus
  have hbx' := hTS.box
  rw [HBX.out] at hbx'
  have y0 := hbx'.cell 0
  have y1 := hbx'.cell 1
  have y2 := hbx'.cell 2
  have y3 := hbx'.cell 3
  have y4 := hbx'.cell 4
  have hzW := hTS.box.lt
  go_wp2_with fail
  clear y0 y1 y2 y3 y4 hbx' hzW
  refine (digi_any i.dst d1 (by omega) W1).mono ?_
  rintro e Wc0 ⟨rfl, hBx⟩
  replace hTS := hTS.below hBx
  clear hBx
  have hcl : Hid (((Lib.decDigits i.dst.toNat)).length ≤ 22) := by show _ ≤ _; have := regL_len i.dst d1 d2; unfold regL at this; simp at this; omega
  have hTx := hTS.below (W' := Wc0.alloc (.cells #[(.string (str (114 :: Lib.decDigits i.dst.toNat)))] 9)) ((Below.refl _ _).alloc (Nat.le_refl _) _)
  have hHx : Has (Wc0.alloc (.cells #[(.string (str (114 :: Lib.decDigits i.dst.toNat)))] 9)) Wc0.heap.size #[sv (regL i.dst)] 9 := has_new _ _ _ _ rfl
  clear hTS
  go_wp2_with (first | refine wpList_cat rfl _ _ rfl [114] (Lib.decDigits i.dst.toNat) rfl rfl (by have := hcl.out; simp; omega) ?_ | (refine wpList_append_text rfl _ _ rfl Wc0.heap.size (regL i.dst) rfl rfl hTx hHx (by simp) ?_; intro v0 Wa0 hTS; clear hTx hHx; refine Hid.out ?_))
  refine Lib.hid ?_
  obtain ⟨a0, c0, hv0⟩ : ∃ a c, v0 = .slice a 1 c := by obtain ⟨a, c, h⟩ := hTS.slice; exact ⟨a, c, h⟩
  subst hv0
  clear hcl
  have hbx' := hTS.box
  rw [HBX.out] at hbx'
  have y0 := hbx'.cell 0
  have y1 := hbx'.cell 1
  have y2 := hbx'.cell 2
  have y3 := hbx'.cell 3
  have y4 := hbx'.cell 4
  have hzW := hTS.box.lt
  go_wp2_with fail
  clear y0 y1 y2 y3 y4 hbx' hzW
  refine (digits_any i.imm (by omega) Wa0).mono ?_
  rintro e Wc1 ⟨rfl, hBx⟩
  replace hTS := hTS.below hBx
  clear hBx
  have hTx := hTS.below (W' := Wc1.alloc (.cells #[(.string (str (Lib.decDigits i.imm)))] 9)) ((Below.refl _ _).alloc (Nat.le_refl _) _)
  have hHx : Has (Wc1.alloc (.cells #[(.string (str (Lib.decDigits i.imm)))] 9)) Wc1.heap.size #[sv (Lib.decDigits i.imm)] 9 := has_new _ _ _ _ rfl
  clear hTS
  go_wp2_with (first | (refine wpList_append_text rfl _ _ rfl Wc1.heap.size (Lib.decDigits i.imm) rfl rfl hTx hHx (by simp) ?_; intro v1 Wa1 hTS; clear hTx hHx; refine Hid.out ?_))
  refine Lib.hid ?_
  obtain ⟨a1, c1, hv1⟩ : ∃ a c, v1 = .slice a 2 c := by obtain ⟨a, c, h⟩ := hTS.slice; exact ⟨a, c, h⟩
  subst hv1
  have hbx' := hTS.box
  rw [HBX.out] at hbx'
  have y0 := hbx'.cell 0
  have y1 := hbx'.cell 1
  have y2 := hbx'.cell 2
  have y3 := hbx'.cell 3
  have y4 := hbx'.cell 4
  have hzW := hTS.box.lt
  go_wp2_with fail
  clear y0 y1 y2 y3 y4 hbx' hzW
  refine (digi_any i.off (by omega) (by omega) Wa1).mono ?_
  rintro e Wc2 ⟨rfl, hBx⟩
  replace hTS := hTS.below hBx
  clear hBx
  have hsx : Hid (str (43 :: (Lib.decDigits i.off.toNat)) = str (sgnL i.off)) := by show _ = _; rw [sgnL_pos hsg]
  have hcl : Hid (((Lib.decDigits i.off.toNat)).length ≤ 22) := by show _ ≤ _; have := sgnL_len i.off f1 f2; rw [sgnL_pos hsg] at this; simp at this; omega
  have hTx := hTS.below (W' := Wc2.alloc (.cells #[(.string (str (43 :: (Lib.decDigits i.off.toNat))))] 9)) ((Below.refl _ _).alloc (Nat.le_refl _) _)
  have hHx : Has (Wc2.alloc (.cells #[(.string (str (43 :: (Lib.decDigits i.off.toNat))))] 9)) Wc2.heap.size #[sv (sgnL i.off)] 9 := by rw [show sv (sgnL i.off) = (.string (str (43 :: (Lib.decDigits i.off.toNat)))) from by unfold sv; rw [← hsx.out]]; exact has_new _ _ _ _ rfl
  clear hTS
  go_wp2_with (first | refine wpList_cat rfl _ _ rfl [43] (Lib.decDigits i.off.toNat) rfl rfl (by have := hcl.out; simp; omega) ?_ | (refine wpList_append_text rfl _ _ rfl Wc2.heap.size (sgnL i.off) rfl rfl hTx hHx (by simp) ?_; intro v2 Wa2 hTS; clear hTx hHx; refine Hid.out ?_))
  refine Lib.hid ?_
  obtain ⟨a2, c2, hv2⟩ : ∃ a c, v2 = .slice a 3 c := by obtain ⟨a, c, h⟩ := hTS.slice; exact ⟨a, c, h⟩
  subst hv2
  clear hcl
  have hbx' := hTS.box
  rw [HBX.out] at hbx'
  have y0 := hbx'.cell 0
  have y1 := hbx'.cell 1
  have y2 := hbx'.cell 2
  have y3 := hbx'.cell 3
  have y4 := hbx'.cell 4
  have hzW := hTS.box.lt
  go_wp2_with fail
  refine (hrn Wa2).mono ?_
  rintro e Wn ⟨rfl, hBn⟩
  replace hTS := hTS.below hBn
  clear hrn hBn y0 y1 y2 y3 y4 hbx' hzW
  have hTS' : TS w Wn bx (.slice a2 3 c2) [regL i.dst, Lib.decDigits i.imm, sgnL i.off] := hTS
  clear hTS
  obtain ⟨a, c, e0, hcell⟩ := row_open hTS'.own
  obtain ⟨g, hg, hcs⟩ := hcell (by simp)
  simp only [Value.slice.injEq] at e0
  obtain ⟨e0, e2, e1⟩ := e0
  clear e2
  subst hg
  subst e0
  have hbel := hTS'.bel
  have hxl : ∀ x ∈ ([regL i.dst, Lib.decDigits i.imm, sgnL i.off] : List (List UInt8)), x.length ≤ 22 := by intro x hx; simp at hx; rcases hx with rfl | rfl | rfl <;> first | exact regL_len _ (by assumption) (by assumption) | exact sgnL_len _ (by assumption) (by assumption) | (have := dec_len i.imm hu; omega)
  have hpt : Hid (partsT true false true true i = [regL i.dst, Lib.decDigits i.imm, sgnL i.off]) := rfl
  have hcs' : Hid (∀ j x, ([regL i.dst, Lib.decDigits i.imm, sgnL i.off] : List (List UInt8))[j]? = some x → Wn.cell? ⟨g, j, none⟩ = some (.string (str x))) := fun j x hx => hcs j _ (by rw [List.getElem?_map, hx]; rfl)
  have hxl' : Hid (∀ x ∈ ([regL i.dst, Lib.decDigits i.imm, sgnL i.off] : List (List UInt8)), x.length ≤ 22) := hxl
  have hlen : Hid (([regL i.dst, Lib.decDigits i.imm, sgnL i.off] : List (List UInt8)).length = 3) := rfl
  clear hcs hcell hxl hTS' e1
  generalize hxs : ([regL i.dst, Lib.decDigits i.imm, sgnL i.off] : List (List UInt8)) = xs at *
  clear hxs
  go_wp2_with fail
  go_loopw [10, 9] (fun iv ov wr => wr = Wn ∧ ∃ k : Nat, k ≤ 3 ∧ iv = .int .i64 k ∧ ov = .string (str (textT nm (xs.take k)))) (fun iv _ _ => 3 - (intOf iv).toNat)
  case atStart => exact ⟨rfl, 0, Nat.zero_le _, rfl, rfl⟩
  case round =>
    obtain ⟨rfl, k, hk, rfl, rfl⟩ := hrel
    by_cases hlt : k < 3
    · have hlt' : (k : Int) < 3 := by omega
      obtain ⟨x, hx⟩ : ∃ x, xs[k]? = some x := ⟨_, List.getElem?_eq_getElem (by have := hlen.out; omega)⟩
      have hc := hcs'.out k x hx
      have hxl := hxl'.out x (List.mem_of_getElem? hx)
      have hal := textT_len nm xs k hnl.out hxl'.out (by have := hlen.out; omega)
      have HXL : Hid (x.length ≤ 22 ∧ (textT nm (xs.take k)).length ≤ 2000) := ⟨hxl, hal⟩
      clear hxl hal
      cases k with
      | zero =>
        have HE : Hid (textT nm (xs.take (0 + 1)) = nm ++ 32 :: x) := textT_zero nm xs x hx
        have HX0 : Hid (textT nm (xs.take 0) = nm) := rfl
        rw [HX0.out] at HXL ⊢
        clear hx
        go_wp2_with (first | refine wpList_cat rfl _ _ rfl nm [32] rfl rfl (by have := HXL.out.2; simp; omega) ?_ | refine wpList_cat rfl _ _ rfl (nm ++ [32]) x rfl rfl (by have := HXL.out; simp; omega) ?_)
        go_roundw
        case rel => exact ⟨by first | trivial | rfl, 0 + 1, by omega, by go_num, by first | (rw [HE.out]; done) | (rw [HE.out]; congr 2; simp; done)⟩
        case measure => simp [intOf]
      | succ k =>
        have HE : Hid (textT nm (xs.take (k + 1 + 1)) = textT nm (xs.take (k + 1)) ++ [44, 32] ++ x) := textT_succ nm xs k x hx
        have hk0 : ¬ ((k + 1 : Nat) : Int) = 0 := by omega
        obtain ⟨A, hA⟩ : ∃ A, A = textT nm (xs.take (k + 1)) := ⟨_, rfl⟩
        rw [← hA] at HE HXL ⊢
        clear hA hx
        go_wp2_with (first | refine wpList_cat rfl _ _ rfl A [44, 32] rfl rfl (by have := HXL.out.2; simp; omega) ?_ | refine wpList_cat rfl _ _ rfl (A ++ [44, 32]) x rfl rfl (by have := HXL.out; simp; omega) ?_)
        go_roundw
        case rel => exact ⟨by first | trivial | rfl, k + 1 + 1, by omega, by go_num, by first | (rw [HE.out]; done) | (rw [HE.out]; congr 2; simp; done)⟩
        case measure => simp [intOf]; omega
    · obtain rfl : k = 3 := by omega
      have hfull : Hid (xs.take 3 = xs) := by show _ = _; rw [List.take_of_length_le]; have := hlen.out; omega
      go_wp2_with fail
      go_ret
      refine ⟨?_, hbel⟩
      rw [hpt.out]
      show Ending.returned (.string (str (textT nm (xs.take 3)))) = _
      rw [hfull.out]
set_option maxRecDepth 10000 in
set_option maxHeartbeats 2000000 in
theorem rtext_dmon (i : Ins) (n : Nat) (hop : i.op = n) (hn : n < 25) (w : World) (hm : i.may = true) (hu : i.imm < 4294967296) (h1 : useD n = true) (h2 : useS n = false) (h3 : useM n = true) (h4 : useO n = true) (h5 : useI n = true) (hsg : i.off < 0) :
    Calls Tryd.prog 23 #[.agg i.cells.toArray] w fun e w' => e = .returned (.string (str (textT (nameL n) (partsT true false true true i)))) ∧ Below w.heap.size w w' := by
  have _ := hu
  obtain ⟨⟨o1, o2⟩, ⟨d1, d2⟩, ⟨s1, s2⟩, ⟨f1, f2⟩⟩ := may_bounds hm
  have hnl : Hid ((nameL n).length ≤ 100) := by
    have key : ∀ j : Fin 25, (nameL j.val).length ≤ 100 := by decide +kernel
    exact key ⟨n, hn⟩
  have hrn := fun W => rname_yes n W h5 hn
  have hus := fun W => uses_any n W
  rw [h1, h2, h3, h4, h5] at hus
  generalize nameL n = nm at *
  have hTS0 : TS w (w.alloc (.cells #[.int .i64 n, .int .i64 i.dst, .int .i64 i.src, .int .i64 i.off, .int .u32 i.imm] 43)) #[.int .i64 n, .int .i64 i.dst, .int .i64 i.src, .int .i64 i.off, .int .u32 i.imm] (.slice none 0 0) [] := ⟨has_new _ _ _ _ rfl, World.ownsRow_nil _ _ _ _, (Below.refl _ _).alloc (Nat.le_refl _) _⟩
  have hcells : i.cells.toArray = #[.int .i64 n, .int .i64 i.dst, .int .i64 i.src, .int .i64 i.off, .int .u32 i.imm] := by rw [← hop]; rfl
  rw [hcells]
  obtain ⟨bx, hbx⟩ : ∃ bx : Array Value, bx = #[.int .i64 n, .int .i64 i.dst, .int .i64 i.src, .int .i64 i.off, .int .u32 i.imm] := ⟨_, rfl⟩
  have HBX : Hid (bx = #[.int .i64 n, .int .i64 i.dst, .int .i64 i.src, .int .i64 i.off, .int .u32 i.imm]) := hbx
  obtain ⟨W1, hW1⟩ : ∃ W1, W1 = w.alloc (.cells #[.int .i64 n, .int .i64 i.dst, .int .i64 i.src, .int .i64 i.off, .int .u32 i.imm] 43) := ⟨_, rfl⟩
  have hTS : TS w W1 bx (.slice none 0 0) [] := by rw [hbx, hW1]; exact hTS0
  clear hTS0 hcells hm hop hbx h1 h2 h3 h4 h5
  go_enter Tryd.func23, Tryd.ntmps23
  go_wp2_with fail
  rw [← hW1]
  clear hW1
  refine (hus W1).mono ?_
  rintro e w' ⟨rfl, hw⟩
  obtain rfl := hw
  clear hus
  have hbx' := hTS.box
  rw [HBX.out] at hbx'
  have y0 := hbx'.cell 0
  have y1 := hbx'.cell 1
  have y2 := hbx'.cell 2
  have y3 := hbx'.cell 3
  have y4 := hbx'.cell 4
  have hzW := hTS.box.lt
  go_wp2_with fail
  clear y0 y1 y2 y3 y4 hbx' hzW
  refine (digi_any i.dst d1 (by omega) W1).mono ?_
  rintro e Wc0 ⟨rfl, hBx⟩
  replace hTS := hTS.below hBx
  clear hBx
  have hcl : Hid (((Lib.decDigits i.dst.toNat)).length ≤ 22) := by show _ ≤ _; have := regL_len i.dst d1 d2; unfold regL at this; simp at this; omega
  have hTx := hTS.below (W' := Wc0.alloc (.cells #[(.string (str (114 :: Lib.decDigits i.dst.toNat)))] 9)) ((Below.refl _ _).alloc (Nat.le_refl _) _)
  have hHx : Has (Wc0.alloc (.cells #[(.string (str (114 :: Lib.decDigits i.dst.toNat)))] 9)) Wc0.heap.size #[sv (regL i.dst)] 9 := has_new _ _ _ _ rfl
  clear hTS
  go_wp2_with (first | refine wpList_cat rfl _ _ rfl [114] (Lib.decDigits i.dst.toNat) rfl rfl (by have := hcl.out; simp; omega) ?_ | (refine wpList_append_text rfl _ _ rfl Wc0.heap.size (regL i.dst) rfl rfl hTx hHx (by simp) ?_; intro v0 Wa0 hTS; clear hTx hHx; refine Hid.out ?_))
  refine Lib.hid ?_
  obtain ⟨a0, c0, hv0⟩ : ∃ a c, v0 = .slice a 1 c := by obtain ⟨a, c, h⟩ := hTS.slice; exact ⟨a, c, h⟩
  subst hv0
  clear hcl
  have hbx' := hTS.box
  rw [HBX.out] at hbx'
  have y0 := hbx'.cell 0
  have y1 := hbx'.cell 1
  have y2 := hbx'.cell 2
  have y3 := hbx'.cell 3
  have y4 := hbx'.cell 4
  have hzW := hTS.box.lt
  go_wp2_with fail
  clear y0 y1 y2 y3 y4 hbx' hzW
  refine (digits_any i.imm (by omega) Wa0).mono ?_
  rintro e Wc1 ⟨rfl, hBx⟩
  replace hTS := hTS.below hBx
  clear hBx
  have hTx := hTS.below (W' := Wc1.alloc (.cells #[(.string (str (Lib.decDigits i.imm)))] 9)) ((Below.refl _ _).alloc (Nat.le_refl _) _)
  have hHx : Has (Wc1.alloc (.cells #[(.string (str (Lib.decDigits i.imm)))] 9)) Wc1.heap.size #[sv (Lib.decDigits i.imm)] 9 := has_new _ _ _ _ rfl
  clear hTS
  go_wp2_with (first | (refine wpList_append_text rfl _ _ rfl Wc1.heap.size (Lib.decDigits i.imm) rfl rfl hTx hHx (by simp) ?_; intro v1 Wa1 hTS; clear hTx hHx; refine Hid.out ?_))
  refine Lib.hid ?_
  obtain ⟨a1, c1, hv1⟩ : ∃ a c, v1 = .slice a 2 c := by obtain ⟨a, c, h⟩ := hTS.slice; exact ⟨a, c, h⟩
  subst hv1
  have hbx' := hTS.box
  rw [HBX.out] at hbx'
  have y0 := hbx'.cell 0
  have y1 := hbx'.cell 1
  have y2 := hbx'.cell 2
  have y3 := hbx'.cell 3
  have y4 := hbx'.cell 4
  have hzW := hTS.box.lt
  go_wp2_with fail
  clear y0 y1 y2 y3 y4 hbx' hzW
  refine (digi_any (-i.off) (by omega) (by omega) Wa1).mono ?_
  rintro e Wc2 ⟨rfl, hBx⟩
  replace hTS := hTS.below hBx
  clear hBx
  have hsx : Hid (str (45 :: (Lib.decDigits (-i.off).toNat)) = str (sgnL i.off)) := by show _ = _; rw [sgnL_neg hsg]
  have hcl : Hid (((Lib.decDigits (-i.off).toNat)).length ≤ 22) := by show _ ≤ _; have := sgnL_len i.off f1 f2; rw [sgnL_neg hsg] at this; simp at this; omega
  have hTx := hTS.below (W' := Wc2.alloc (.cells #[(.string (str (45 :: (Lib.decDigits (-i.off).toNat))))] 9)) ((Below.refl _ _).alloc (Nat.le_refl _) _)
  have hHx : Has (Wc2.alloc (.cells #[(.string (str (45 :: (Lib.decDigits (-i.off).toNat))))] 9)) Wc2.heap.size #[sv (sgnL i.off)] 9 := by rw [show sv (sgnL i.off) = (.string (str (45 :: (Lib.decDigits (-i.off).toNat)))) from by unfold sv; rw [← hsx.out]]; exact has_new _ _ _ _ rfl
  clear hTS
  go_wp2_with (first | refine wpList_cat rfl _ _ rfl [45] (Lib.decDigits (-i.off).toNat) rfl rfl (by have := hcl.out; simp; omega) ?_ | (refine wpList_append_text rfl _ _ rfl Wc2.heap.size (sgnL i.off) rfl rfl hTx hHx (by simp) ?_; intro v2 Wa2 hTS; clear hTx hHx; refine Hid.out ?_))
  refine Lib.hid ?_
  obtain ⟨a2, c2, hv2⟩ : ∃ a c, v2 = .slice a 3 c := by obtain ⟨a, c, h⟩ := hTS.slice; exact ⟨a, c, h⟩
  subst hv2
  clear hcl
  have hbx' := hTS.box
  rw [HBX.out] at hbx'
  have y0 := hbx'.cell 0
  have y1 := hbx'.cell 1
  have y2 := hbx'.cell 2
  have y3 := hbx'.cell 3
  have y4 := hbx'.cell 4
  have hzW := hTS.box.lt
  go_wp2_with fail
  refine (hrn Wa2).mono ?_
  rintro e Wn ⟨rfl, hBn⟩
  replace hTS := hTS.below hBn
  clear hrn hBn y0 y1 y2 y3 y4 hbx' hzW
  have hTS' : TS w Wn bx (.slice a2 3 c2) [regL i.dst, Lib.decDigits i.imm, sgnL i.off] := hTS
  clear hTS
  obtain ⟨a, c, e0, hcell⟩ := row_open hTS'.own
  obtain ⟨g, hg, hcs⟩ := hcell (by simp)
  simp only [Value.slice.injEq] at e0
  obtain ⟨e0, e2, e1⟩ := e0
  clear e2
  subst hg
  subst e0
  have hbel := hTS'.bel
  have hxl : ∀ x ∈ ([regL i.dst, Lib.decDigits i.imm, sgnL i.off] : List (List UInt8)), x.length ≤ 22 := by intro x hx; simp at hx; rcases hx with rfl | rfl | rfl <;> first | exact regL_len _ (by assumption) (by assumption) | exact sgnL_len _ (by assumption) (by assumption) | (have := dec_len i.imm hu; omega)
  have hpt : Hid (partsT true false true true i = [regL i.dst, Lib.decDigits i.imm, sgnL i.off]) := rfl
  have hcs' : Hid (∀ j x, ([regL i.dst, Lib.decDigits i.imm, sgnL i.off] : List (List UInt8))[j]? = some x → Wn.cell? ⟨g, j, none⟩ = some (.string (str x))) := fun j x hx => hcs j _ (by rw [List.getElem?_map, hx]; rfl)
  have hxl' : Hid (∀ x ∈ ([regL i.dst, Lib.decDigits i.imm, sgnL i.off] : List (List UInt8)), x.length ≤ 22) := hxl
  have hlen : Hid (([regL i.dst, Lib.decDigits i.imm, sgnL i.off] : List (List UInt8)).length = 3) := rfl
  clear hcs hcell hxl hTS' e1
  generalize hxs : ([regL i.dst, Lib.decDigits i.imm, sgnL i.off] : List (List UInt8)) = xs at *
  clear hxs
  go_wp2_with fail
  go_loopw [10, 9] (fun iv ov wr => wr = Wn ∧ ∃ k : Nat, k ≤ 3 ∧ iv = .int .i64 k ∧ ov = .string (str (textT nm (xs.take k)))) (fun iv _ _ => 3 - (intOf iv).toNat)
  case atStart => exact ⟨rfl, 0, Nat.zero_le _, rfl, rfl⟩
  case round =>
    obtain ⟨rfl, k, hk, rfl, rfl⟩ := hrel
    by_cases hlt : k < 3
    · have hlt' : (k : Int) < 3 := by omega
      obtain ⟨x, hx⟩ : ∃ x, xs[k]? = some x := ⟨_, List.getElem?_eq_getElem (by have := hlen.out; omega)⟩
      have hc := hcs'.out k x hx
      have hxl := hxl'.out x (List.mem_of_getElem? hx)
      have hal := textT_len nm xs k hnl.out hxl'.out (by have := hlen.out; omega)
      have HXL : Hid (x.length ≤ 22 ∧ (textT nm (xs.take k)).length ≤ 2000) := ⟨hxl, hal⟩
      clear hxl hal
      cases k with
      | zero =>
        have HE : Hid (textT nm (xs.take (0 + 1)) = nm ++ 32 :: x) := textT_zero nm xs x hx
        have HX0 : Hid (textT nm (xs.take 0) = nm) := rfl
        rw [HX0.out] at HXL ⊢
        clear hx
        go_wp2_with (first | refine wpList_cat rfl _ _ rfl nm [32] rfl rfl (by have := HXL.out.2; simp; omega) ?_ | refine wpList_cat rfl _ _ rfl (nm ++ [32]) x rfl rfl (by have := HXL.out; simp; omega) ?_)
        go_roundw
        case rel => exact ⟨by first | trivial | rfl, 0 + 1, by omega, by go_num, by first | (rw [HE.out]; done) | (rw [HE.out]; congr 2; simp; done)⟩
        case measure => simp [intOf]
      | succ k =>
        have HE : Hid (textT nm (xs.take (k + 1 + 1)) = textT nm (xs.take (k + 1)) ++ [44, 32] ++ x) := textT_succ nm xs k x hx
        have hk0 : ¬ ((k + 1 : Nat) : Int) = 0 := by omega
        obtain ⟨A, hA⟩ : ∃ A, A = textT nm (xs.take (k + 1)) := ⟨_, rfl⟩
        rw [← hA] at HE HXL ⊢
        clear hA hx
        go_wp2_with (first | refine wpList_cat rfl _ _ rfl A [44, 32] rfl rfl (by have := HXL.out.2; simp; omega) ?_ | refine wpList_cat rfl _ _ rfl (A ++ [44, 32]) x rfl rfl (by have := HXL.out; simp; omega) ?_)
        go_roundw
        case rel => exact ⟨by first | trivial | rfl, k + 1 + 1, by omega, by go_num, by first | (rw [HE.out]; done) | (rw [HE.out]; congr 2; simp; done)⟩
        case measure => simp [intOf]; omega
    · obtain rfl : k = 3 := by omega
      have hfull : Hid (xs.take 3 = xs) := by show _ = _; rw [List.take_of_length_le]; have := hlen.out; omega
      go_wp2_with fail
      go_ret
      refine ⟨?_, hbel⟩
      rw [hpt.out]
      show Ending.returned (.string (str (textT nm (xs.take 3)))) = _
      rw [hfull.out]
set_option maxRecDepth 10000 in
set_option maxHeartbeats 2000000 in
theorem rtext_m (i : Ins) (n : Nat) (hop : i.op = n) (hn : n < 25) (w : World) (hm : i.may = true) (hu : i.imm < 4294967296) (h1 : useD n = false) (h2 : useS n = false) (h3 : useM n = true) (h4 : useO n = false) (h5 : useI n = true) :
    Calls Tryd.prog 23 #[.agg i.cells.toArray] w fun e w' => e = .returned (.string (str (textT (nameL n) (partsT false false true false i)))) ∧ Below w.heap.size w w' := by
  have _ := hu
  obtain ⟨⟨o1, o2⟩, ⟨d1, d2⟩, ⟨s1, s2⟩, ⟨f1, f2⟩⟩ := may_bounds hm
  have hnl : Hid ((nameL n).length ≤ 100) := by
    have key : ∀ j : Fin 25, (nameL j.val).length ≤ 100 := by decide +kernel
    exact key ⟨n, hn⟩
  have hrn := fun W => rname_yes n W h5 hn
  have hus := fun W => uses_any n W
  rw [h1, h2, h3, h4, h5] at hus
  generalize nameL n = nm at *
  have hTS0 : TS w (w.alloc (.cells #[.int .i64 n, .int .i64 i.dst, .int .i64 i.src, .int .i64 i.off, .int .u32 i.imm] 43)) #[.int .i64 n, .int .i64 i.dst, .int .i64 i.src, .int .i64 i.off, .int .u32 i.imm] (.slice none 0 0) [] := ⟨has_new _ _ _ _ rfl, World.ownsRow_nil _ _ _ _, (Below.refl _ _).alloc (Nat.le_refl _) _⟩
  have hcells : i.cells.toArray = #[.int .i64 n, .int .i64 i.dst, .int .i64 i.src, .int .i64 i.off, .int .u32 i.imm] := by rw [← hop]; rfl
  rw [hcells]
  obtain ⟨bx, hbx⟩ : ∃ bx : Array Value, bx = #[.int .i64 n, .int .i64 i.dst, .int .i64 i.src, .int .i64 i.off, .int .u32 i.imm] := ⟨_, rfl⟩
  have HBX : Hid (bx = #[.int .i64 n, .int .i64 i.dst, .int .i64 i.src, .int .i64 i.off, .int .u32 i.imm]) := hbx
  obtain ⟨W1, hW1⟩ : ∃ W1, W1 = w.alloc (.cells #[.int .i64 n, .int .i64 i.dst, .int .i64 i.src, .int .i64 i.off, .int .u32 i.imm] 43) := ⟨_, rfl⟩
  have hTS : TS w W1 bx (.slice none 0 0) [] := by rw [hbx, hW1]; exact hTS0
  clear hTS0 hcells hm hop hbx h1 h2 h3 h4 h5
  go_enter Tryd.func23, Tryd.ntmps23
  go_wp2_with fail
  rw [← hW1]
  clear hW1
  refine (hus W1).mono ?_
  rintro e w' ⟨rfl, hw⟩
  obtain rfl := hw
  clear hus
  have hbx' := hTS.box
  rw [HBX.out] at hbx'
  have y0 := hbx'.cell 0
  have y1 := hbx'.cell 1
  have y2 := hbx'.cell 2
  have y3 := hbx'.cell 3
  have y4 := hbx'.cell 4
  have hzW := hTS.box.lt
  go_wp2_with fail
  clear y0 y1 y2 y3 y4 hbx' hzW
  refine (digits_any i.imm (by omega) W1).mono ?_
  rintro e Wc0 ⟨rfl, hBx⟩
  replace hTS := hTS.below hBx
  clear hBx
  have hTx := hTS.below (W' := Wc0.alloc (.cells #[(.string (str (Lib.decDigits i.imm)))] 9)) ((Below.refl _ _).alloc (Nat.le_refl _) _)
  have hHx : Has (Wc0.alloc (.cells #[(.string (str (Lib.decDigits i.imm)))] 9)) Wc0.heap.size #[sv (Lib.decDigits i.imm)] 9 := has_new _ _ _ _ rfl
  clear hTS
  go_wp2_with (first | (refine wpList_append_text rfl _ _ rfl Wc0.heap.size (Lib.decDigits i.imm) rfl rfl hTx hHx (by simp) ?_; intro v0 Wa0 hTS; clear hTx hHx; refine Hid.out ?_))
  refine Lib.hid ?_
  obtain ⟨a0, c0, hv0⟩ : ∃ a c, v0 = .slice a 1 c := by obtain ⟨a, c, h⟩ := hTS.slice; exact ⟨a, c, h⟩
  subst hv0
  have hbx' := hTS.box
  rw [HBX.out] at hbx'
  have y0 := hbx'.cell 0
  have y1 := hbx'.cell 1
  have y2 := hbx'.cell 2
  have y3 := hbx'.cell 3
  have y4 := hbx'.cell 4
  have hzW := hTS.box.lt
  go_wp2_with fail
  refine (hrn Wa0).mono ?_
  rintro e Wn ⟨rfl, hBn⟩
  replace hTS := hTS.below hBn
  clear hrn hBn y0 y1 y2 y3 y4 hbx' hzW
  have hTS' : TS w Wn bx (.slice a0 1 c0) [Lib.decDigits i.imm] := hTS
  clear hTS
  obtain ⟨a, c, e0, hcell⟩ := row_open hTS'.own
  obtain ⟨g, hg, hcs⟩ := hcell (by simp)
  simp only [Value.slice.injEq] at e0
  obtain ⟨e0, e2, e1⟩ := e0
  clear e2
  subst hg
  subst e0
  have hbel := hTS'.bel
  have hxl : ∀ x ∈ ([Lib.decDigits i.imm] : List (List UInt8)), x.length ≤ 22 := by intro x hx; simp at hx; rcases hx with rfl <;> first | exact regL_len _ (by assumption) (by assumption) | exact sgnL_len _ (by assumption) (by assumption) | (have := dec_len i.imm hu; omega)
  have hpt : Hid (partsT false false true false i = [Lib.decDigits i.imm]) := rfl
  have hcs' : Hid (∀ j x, ([Lib.decDigits i.imm] : List (List UInt8))[j]? = some x → Wn.cell? ⟨g, j, none⟩ = some (.string (str x))) := fun j x hx => hcs j _ (by rw [List.getElem?_map, hx]; rfl)
  have hxl' : Hid (∀ x ∈ ([Lib.decDigits i.imm] : List (List UInt8)), x.length ≤ 22) := hxl
  have hlen : Hid (([Lib.decDigits i.imm] : List (List UInt8)).length = 1) := rfl
  clear hcs hcell hxl hTS' e1
  generalize hxs : ([Lib.decDigits i.imm] : List (List UInt8)) = xs at *
  clear hxs
  go_wp2_with fail
  go_loopw [10, 9] (fun iv ov wr => wr = Wn ∧ ∃ k : Nat, k ≤ 1 ∧ iv = .int .i64 k ∧ ov = .string (str (textT nm (xs.take k)))) (fun iv _ _ => 1 - (intOf iv).toNat)
  case atStart => exact ⟨rfl, 0, Nat.zero_le _, rfl, rfl⟩
  case round =>
    obtain ⟨rfl, k, hk, rfl, rfl⟩ := hrel
    by_cases hlt : k < 1
    · have hlt' : (k : Int) < 1 := by omega
      obtain ⟨x, hx⟩ : ∃ x, xs[k]? = some x := ⟨_, List.getElem?_eq_getElem (by have := hlen.out; omega)⟩
      have hc := hcs'.out k x hx
      have hxl := hxl'.out x (List.mem_of_getElem? hx)
      have hal := textT_len nm xs k hnl.out hxl'.out (by have := hlen.out; omega)
      have HXL : Hid (x.length ≤ 22 ∧ (textT nm (xs.take k)).length ≤ 2000) := ⟨hxl, hal⟩
      clear hxl hal
      cases k with
      | zero =>
        have HE : Hid (textT nm (xs.take (0 + 1)) = nm ++ 32 :: x) := textT_zero nm xs x hx
        have HX0 : Hid (textT nm (xs.take 0) = nm) := rfl
        rw [HX0.out] at HXL ⊢
        clear hx
        go_wp2_with (first | refine wpList_cat rfl _ _ rfl nm [32] rfl rfl (by have := HXL.out.2; simp; omega) ?_ | refine wpList_cat rfl _ _ rfl (nm ++ [32]) x rfl rfl (by have := HXL.out; simp; omega) ?_)
        go_roundw
        case rel => exact ⟨by first | trivial | rfl, 0 + 1, by omega, by go_num, by first | (rw [HE.out]; done) | (rw [HE.out]; congr 2; simp; done)⟩
        case measure => simp [intOf]
      | succ k => exact absurd hlt (by omega)
    · obtain rfl : k = 1 := by omega
      have hfull : Hid (xs.take 1 = xs) := by show _ = _; rw [List.take_of_length_le]; have := hlen.out; omega
      go_wp2_with fail
      go_ret
      refine ⟨?_, hbel⟩
      rw [hpt.out]
      show Ending.returned (.string (str (textT nm (xs.take 1)))) = _
      rw [hfull.out]
set_option maxRecDepth 10000 in
set_option maxHeartbeats 2000000 in
theorem rtext_e (i : Ins) (n : Nat) (hop : i.op = n) (hn : n < 25) (w : World) (hm : i.may = true) (hu : i.imm < 4294967296) (h1 : useD n = false) (h2 : useS n = false) (h3 : useM n = false) (h4 : useO n = false) (h5 : useI n = true) :
    Calls Tryd.prog 23 #[.agg i.cells.toArray] w fun e w' => e = .returned (.string (str (textT (nameL n) (partsT false false false false i)))) ∧ Below w.heap.size w w' := by
  have _ := hu
  obtain ⟨⟨o1, o2⟩, ⟨d1, d2⟩, ⟨s1, s2⟩, ⟨f1, f2⟩⟩ := may_bounds hm
  have hnl : Hid ((nameL n).length ≤ 100) := by
    have key : ∀ j : Fin 25, (nameL j.val).length ≤ 100 := by decide +kernel
    exact key ⟨n, hn⟩
  have hrn := fun W => rname_yes n W h5 hn
  have hus := fun W => uses_any n W
  rw [h1, h2, h3, h4, h5] at hus
  generalize nameL n = nm at *
  have hTS0 : TS w (w.alloc (.cells #[.int .i64 n, .int .i64 i.dst, .int .i64 i.src, .int .i64 i.off, .int .u32 i.imm] 43)) #[.int .i64 n, .int .i64 i.dst, .int .i64 i.src, .int .i64 i.off, .int .u32 i.imm] (.slice none 0 0) [] := ⟨has_new _ _ _ _ rfl, World.ownsRow_nil _ _ _ _, (Below.refl _ _).alloc (Nat.le_refl _) _⟩
  have hcells : i.cells.toArray = #[.int .i64 n, .int .i64 i.dst, .int .i64 i.src, .int .i64 i.off, .int .u32 i.imm] := by rw [← hop]; rfl
  rw [hcells]
  obtain ⟨bx, hbx⟩ : ∃ bx : Array Value, bx = #[.int .i64 n, .int .i64 i.dst, .int .i64 i.src, .int .i64 i.off, .int .u32 i.imm] := ⟨_, rfl⟩
  have HBX : Hid (bx = #[.int .i64 n, .int .i64 i.dst, .int .i64 i.src, .int .i64 i.off, .int .u32 i.imm]) := hbx
  obtain ⟨W1, hW1⟩ : ∃ W1, W1 = w.alloc (.cells #[.int .i64 n, .int .i64 i.dst, .int .i64 i.src, .int .i64 i.off, .int .u32 i.imm] 43) := ⟨_, rfl⟩
  have hTS : TS w W1 bx (.slice none 0 0) [] := by rw [hbx, hW1]; exact hTS0
  clear hTS0 hcells hm hop hbx h1 h2 h3 h4 h5
  go_enter Tryd.func23, Tryd.ntmps23
  go_wp2_with fail
  rw [← hW1]
  clear hW1
  refine (hus W1).mono ?_
  rintro e w' ⟨rfl, hw⟩
  obtain rfl := hw
  clear hus
  have hbx' := hTS.box
  rw [HBX.out] at hbx'
  have y0 := hbx'.cell 0
  have y1 := hbx'.cell 1
  have y2 := hbx'.cell 2
  have y3 := hbx'.cell 3
  have y4 := hbx'.cell 4
  have hzW := hTS.box.lt
  go_wp2_with fail
  refine (hrn W1).mono ?_
  rintro e Wn ⟨rfl, hBn⟩
  replace hTS := hTS.below hBn
  clear hrn hBn y0 y1 y2 y3 y4 hbx' hzW
  go_wp2_with fail
  go_loopw [10, 9] (fun iv ov wr => wr = Wn ∧ iv = .int .i64 0 ∧ ov = .string (str nm)) (fun _ _ _ => 0)
  case atStart => exact ⟨rfl, rfl, rfl⟩
  case round =>
    obtain ⟨rfl, rfl, rfl⟩ := hrel
    go_wp2_with fail
    go_ret
    exact ⟨rfl, hTS.bel⟩
end Go.Proofs.YtoalchlokcphkaaDoor
