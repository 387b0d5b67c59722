/- merkle's Path of no place; Up. -/
import Derived.Test.YtcmkjgodgocdfaaDoorT5
import Derived.Laws.EntriesVeiled
namespace Go.Proofs.YtcmkjgodgocdfaaDoor
open Go.RowKit
attribute [local go_sem] Oper.semAt_some

set_option maxRecDepth 100000 in
set_option maxHeartbeats 1000000 in
theorem path_bad (p : Value) (i k : Int) (w : World) (hk : ¬ k = 0) (ha : ∀ w1, Below w.heap.size w w1 → Calls Tryd.prog 34 #[p, .int .i64 i] w1 fun e w' => e = .returned (.int .i64 k) ∧ w' = w1) :
    Calls Tryd.prog 18 #[p, .int .i64 i] w fun e w' => e = .returned (.tuple #[.slice none 0 0, .int .i64 k]) ∧ Below w.heap.size w w' := by
  have hB0 := (Below.refl w.heap.size w).alloc (Nat.le_refl _) (.cells #[.int .i64 i] 3)
  have ha1 := ha _ hB0
  clear ha
  go_enter Tryd.func18, Tryd.ntmps18
  go_wp2_with fail
  go_step3
  go_wp2_with (go_at_call 34; refine ha1.mono ?_; rintro e w' ⟨rfl, hw⟩; obtain rfl := hw.symm)
  rw [Exit.noGoto_ret]
  go_ret2
  exact ⟨rfl, hB0⟩
/-- Up by a path. -/
def upL : List Bool → List Dig → Dig → Dig
  | b :: bs, q :: qs, d => upL bs qs (if b then bothL q d else bothL d q)
  | _, _, d => d
theorem upL_snoc : ∀ (bs : List Bool) (qs : List Dig) (d : Dig) (b : Bool) (q : Dig), bs.length = qs.length → upL (bs ++ [b]) (qs ++ [q]) d = (if b then bothL q (upL bs qs d) else bothL (upL bs qs d) q)
  | [], [], _, _, _, _ => rfl
  | _ :: bs, _ :: qs, d, b, q, h => by
    have := upL_snoc bs qs
    simp only [List.cons_append, upL]
    exact this _ b q (by simpa using h)
theorem upL_take {bs : List Bool} {qs : List Dig} (hl : bs.length = qs.length) {k : Nat} {b : Bool} (hk : bs[k]? = some b) (d : Dig) :
    upL (bs.take (k + 1)) (qs.take (k + 1)) d = (if b then bothL (qs[k]?.getD []) (upL (bs.take k) (qs.take k) d) else bothL (upL (bs.take k) (qs.take k) d) (qs[k]?.getD [])) := by
  have hkl := (List.getElem?_eq_some_iff.1 hk).1
  have e1 : bs.take (k + 1) = bs.take k ++ [b] := by rw [List.take_add_one, hk]; rfl
  have e2 : qs.take (k + 1) = qs.take k ++ [qs[k]?.getD []] := by rw [List.take_add_one, List.getElem?_eq_getElem (by omega)]; rfl
  rw [e1, e2, upL_snoc _ _ _ _ _ (by simp; omega)]
theorem both_len (a b : Dig) : (bothL a b).length = 32 := shaL_length _
theorem upL_len : ∀ (bs : List Bool) (qs : List Dig) (d : Dig), d.length = 32 → (upL bs qs d).length = 32
  | [], _, d, h => by cases ‹List Dig› <;> exact h
  | _ :: _, [], d, h => h
  | b :: bs, q :: qs, d, h => upL_len bs qs _ (by cases b <;> exact both_len _ _)
theorem run_load_mid {o : Oper} {ρ : Operand → Value} {w : World} (x : Operand) (ho : o.op = .load 30 x) (b f : Nat) (hx : ρ x = .pointer (some ⟨b, f, none⟩)) (d : Dig) (hd : d.length = 32) (hc : w.rangeAt b f (byteCells d).toList) :
    (execOp ρ o).run Tryd.prog w = .ok (.value (.agg (byteCells d))) w := by
  unfold execOp
  simp only [ho, hx, Instr.loadAt, Instr.sureAddr, Sem.run_bind, Sem.run_pure, Result.andThen_ok, run_loadVar_mid w b f 30 _ _ hc Tryd.underlying30 rfl (show (Tryd.prog.info? 30).map (·.size) = some (byteCells d).toList.length by rw [byteCells_len, hd]; kernel_rfl)]
theorem run_load_row {o : Oper} {ρ : Operand → Value} {w : World} (x : Operand) (ho : o.op = .load 30 x) (b : Nat) (hx : ρ x = .pointer (some ⟨b, 0, none⟩)) (d : Dig) (hd : d.length = 32) (hc : Has w b (byteCells d) 30) :
    (execOp ρ o).run Tryd.prog w = .ok (.value (.agg (byteCells d))) w := by
  unfold execOp
  simp only [ho, hx, Instr.loadAt, Instr.sureAddr, Sem.run_bind, Sem.run_pure, Result.andThen_ok, run_loadVar_row w b 30 30 (byteCells d) (0, 0) _ hc Tryd.underlying30 rfl (show (Tryd.prog.info? 30).map (·.size) = some (byteCells d).size by rw [byteCells_size, hd]; kernel_rfl)]
theorem wp_store_dig {o : Oper} {a : Act} {w : World} {K : Act → World → Prop} {Q : Exit → Act → World → Prop} (x y : Operand) (ho : o.op = .store 30 x y) (g : Nat) (d : Dig) (hx : a.eval x = .pointer (some ⟨g, 0, none⟩)) (hy : a.eval y = .agg (byteCells d)) (hd : d.length = 32)
    (old : Array Value) (hg : Has w g old 30) (hs : old.size = 32) (h : K (a.put o.dst undef) (w.setRow g (byteCells d))) : o.wp Tryd.prog a w K Q := by
  have hb : (byteCells d).size = 32 := by rw [byteCells_size, hd]
  unfold Oper.wp execOp
  simp only [ho, hx, hy, Instr.storeAt, Instr.sureAddr, Sem.run_bind, Sem.run_pure, Result.andThen_ok, run_storeVar_row (P := Tryd.prog) w g 30 30 old (byteCells d) hg (show (Tryd.prog.info? 30).map (·.size) = some (byteCells d).size by rw [hb]; kernel_rfl) (by omega) (byteCells_one _)]
  exact h
/-- Between two rounds of Up. -/
structure UpI (w : World) (jb fb ab D : Nat) (pv : Value) (x : Dig) (W : World) : Prop where
  low : Below w.heap.size w W
  dfr : W.heap[D]? = some (.deferred (some []))
  size : D + 2 ≤ W.heap.size
  path : Has W (w.heap.size + 1) #[pv] 22
  res : Has W (w.heap.size + 2) (zeroCells 32) 30
  one : Has W fb #[.int .u8 (bv 1)] 5
  jn : Has W jb #[.func (.func 44) #[] #[.pointer (some ⟨fb, 0, none⟩)]] 70
  acc : Has W ab (byteCells x) 30
  lt : fb < D ∧ jb < D ∧ ab < D ∧ w.heap.size + 2 < D ∧ w.heap.size + 2 < ab
theorem UpI.ex {w W W' : World} {jb fb ab D : Nat} {pv : Value} {x : Dig} (h : UpI w jb fb ab D pv x W) (e : Ex (D + 1) W W') : UpI w jb fb ab D pv x W' := by
  have hs := h.size
  obtain ⟨l1, l2, l3, l4, l5⟩ := h.lt
  exact ⟨h.low.trans (e.low (by omega) (by omega)), (e.block _ (by omega) (by omega)).trans h.dfr, Nat.le_trans hs e.size, h.path.ex e (by omega), h.res.ex e (by omega), h.one.ex e (by omega), h.jn.ex e (by omega), h.acc.ex e (by omega), h.lt⟩
theorem UpI.grow {w W W' : World} {jb fb ab D : Nat} {pv : Value} {x : Dig} (h : UpI w jb fb ab D pv x W) (e : Below W.heap.size W W') : UpI w jb fb ab D pv x W' := by
  have hs := h.size
  obtain ⟨l1, l2, l3, l4, l5⟩ := h.lt
  exact ⟨h.low.trans (e.mono (by omega)), (e.block _ (by omega)).trans h.dfr, Nat.le_trans hs e.size, h.path.below e h.path.lt, h.res.below e h.res.lt, h.one.below e h.one.lt, h.jn.below e h.jn.lt, h.acc.below e h.acc.lt, h.lt⟩
theorem has_ne {W : World} {b c t u : Nat} {x y : Array Value} (h : Has W b x t) (k : Has W c y u) (ht : t ≠ u) : b ≠ c := by
  rintro rfl
  have := Option.some.inj ((show W.heap[b]? = some _ from h).symm.trans (show W.heap[b]? = some _ from k))
  simp only [Obj.cells.injEq] at this
  exact ht this.2.1
theorem UpI.set {w W : World} {jb fb ab D : Nat} {pv : Value} {x : Dig} (h : UpI w jb fb ab D pv x W) (y : Dig) : UpI w jb fb ab D pv y (W.setRow ab (byteCells y)) := by
  have hs := h.size
  obtain ⟨l1, l2, l3, l4, l5⟩ := h.lt
  have e := Ex.setRow ab W (byteCells y)
  have hal := h.acc.lt
  exact ⟨h.low.trans (e.low (by omega) (by omega)), (e.block _ (by omega) (by omega)).trans h.dfr, Nat.le_trans hs e.size, h.path.ex e (by omega), h.res.ex e (by omega), h.one.ex e (has_ne h.one h.acc (by decide)), h.jn.ex e (has_ne h.jn h.acc (by decide)), setRow_heap _ _ _ _ _ _ h.acc, h.lt⟩
set_option maxRecDepth 100000 in
set_option maxHeartbeats 1000000 in
theorem up_ok (leaf : Dig) (i n : Nat) (pv : Value) (ds : List Dig) (w : World) (hl : leaf.length = 32) (hin : i < n) (hn : n ≤ 16) (hp : Digs w pv ds) (hlen : ds.length = (sidesL i n).length) (hg : Glob w) :
    Calls Tryd.prog 25 #[.agg (byteCells leaf), .int .i64 (i : Int), .int .i64 (n : Int), pv] w fun e w' => e = .returned (.tuple #[.agg (byteCells (upL (sidesL i n) ds (markL leaf))), .int .i64 0]) ∧ Below w.heap.size w w' := by
  have hgs := hg.size
  have hp0 := hp
  obtain ⟨h32, a, cap, g, o, rfl, hcap, hmx, ha, hinn, hgl⟩ := hp
  have hs16 := sidesL_le n i
  have hbs : (byteCells leaf).size = 32 := by rw [byteCells_size, hl]
  have hst := steps_ok i n hin hn
  have hseq := fun N l bi bn W J => sides1_any N l bi bn i n W J hin hn
  obtain ⟨sd, hsd⟩ : ∃ sd, sidesL i n = sd := ⟨_, rfl⟩
  obtain ⟨m, hm⟩ : ∃ m, ds.length = m := ⟨_, rfl⟩
  rw [hsd] at hlen hs16 ⊢
  simp only [hsd] at hst hseq
  rw [hm] at hlen hcap hp0 ⊢
  rw [← hlen] at hs16
  simp only [← hlen] at hst
  have HL : Hid (m = sd.length ∧ ds.length = m) := ⟨hlen, hm⟩
  clear hsd hlen hm
  refine (callsIn_wide (n := 10)).1 ?_
  refine callsIn_of_wp_marks Tryd.func25 rfl trivial ?_ rfl
  simp only [Tryd.ntmps25, List.size_toArray, List.length_cons, List.length_nil, Nat.reduceAdd, Nat.reduceSub, Array.replicate_succ, Array.replicate_zero, List.push_toArray, List.append_toArray, List.nil_append, List.cons_append]
  refine wpIn_wide.2 ?_
  go_upto_region 1 with (fail)
  refine named (p := Code.wp _ _ _ _) ?_
  intro W0 hW0
  have hz0 : w.heap.size + 3 ≤ W0.heap.size := by rw [hW0]; simp
  have hB0 : Below w.heap.size w W0 := by
    rw [hW0]
    repeat (first | exact Below.refl _ _ | refine Below.alloc ?_ (by simp <;> omega) _)
  have x0 : Has W0 w.heap.size (byteCells leaf) 30 := by
    rw [hW0]; repeat (first | (refine has_new _ _ _ _ ?_; simp; done) | refine has_old ?_)
  have x1 : Has W0 (w.heap.size + 1) #[.slice a m cap] 22 := by
    rw [hW0]; repeat (first | (refine has_new _ _ _ _ ?_; simp; done) | refine has_old ?_)
  have x2 : Has W0 (w.heap.size + 2) (zeroCells 32) 30 := by
    rw [hW0]; repeat (first | (refine has_new _ _ _ _ ?_; simp; done) | refine has_old ?_)
  clear hW0
  go_wp2_with fail
  refine (hst W0).mono ?_
  rintro e W1 ⟨rfl, hB1⟩
  have hz1 := hB1.size
  have c1 := (x1.below hB1 x1.lt).one
  go_upto_region 7 with (first
    | (go_at_call 40; refine (behind_any 0 _).mono ?_; rintro e w' ⟨rfl, hw⟩; obtain rfl := hw.symm)
    | (go_at_call 40; refine (behind_any 1 _).mono ?_; rintro e w' ⟨rfl, hw⟩; obtain rfl := hw.symm))
  refine named (p := Code.wp _ _ _ _) ?_
  intro W2 hW2
  have hz2 : W1.heap.size + 3 ≤ W2.heap.size := by rw [hW2]; simp
  have hB2 : Below W1.heap.size W1 W2 := by
    rw [hW2]
    repeat (first | exact Below.refl _ _ | refine Below.alloc ?_ (by simp <;> omega) _ | refine Below.setCell ?_ (by simp <;> omega) _)
  have y0 : Has W2 W1.heap.size #[.int .u8 (bv 0)] 5 := by
    rw [hW2]; repeat (first | (refine has_new _ _ _ _ ?_; simp; done) | refine has_old ?_)
  have y1 : Has W2 (W1.heap.size + 1) #[.int .u8 (bv 1)] 5 := by
    rw [hW2]; repeat (first | (refine has_new _ _ _ _ ?_; simp; done) | refine has_old ?_)
  have y2 : Has W2 (W1.heap.size + 2) #[.func (.func 44) #[] #[.pointer (some ⟨W1.heap.size + 1, 0, none⟩)]] 70 := by
    rw [hW2]; repeat (first | (refine has_new _ _ _ _ ?_; simp; done) | refine has_old ?_)
  clear hW2 c1
  have hB02 : Below W0.heap.size W0 W2 := hB1.trans (hB2.mono (by omega))
  have hBw2 : Below w.heap.size w W2 := hB0.trans (hB02.mono (by omega))
  have xl := x0.below hB02 x0.lt
  have hdg := digs_one W2 leaf hl
  have hBa := (Below.refl W2.heap.size W2).alloc (Nat.le_refl _) (.cells (byteCells leaf) 30)
  have hg2 := (hg.below hBw2 hg.size).below hBa (by have := (hg.below hBw2 hg.size).size; omega)
  have y0' := y0.below hBa y0.lt
  go_wp2_with (first
    | refine wpList_load_row rfl 30 _ rfl w.heap.size rfl 30 (byteCells leaf) (0, 0) _ xl Tryd.underlying30 rfl (by rw [hbs]; kernel_rfl) ?_
    | refine wpList_build_one rfl _ rfl leaf rfl hl ?_)
  refine (behind1_any 0 W1.heap.size _ [leaf] _ y0'.one y0'.lt hdg (by simp) hg2).mono ?_
  rintro e W3 ⟨rfl, hB3⟩
  have hmk : markL leaf = shaL (0 :: [leaf].flatten) := by simp [markL]
  rw [← hmk]
  have hm32 : (markL leaf).length = 32 := shaL_length _
  obtain ⟨x, hx⟩ : ∃ x, markL leaf = x := ⟨_, rfl⟩
  rw [hx] at hm32 ⊢
  have HX : Hid (markL leaf = x) := hx
  have hxs : (byteCells x).size = 32 := by rw [byteCells_size, hm32]
  clear hmk hx hdg
  have hn3 := has_new W3 (zeroCells 32) 30 W3.heap.size rfl
  go_upto_region 8 with (refine wpList_store_row rfl 30 _ _ rfl W3.heap.size (byteCells x) rfl rfl 30 _ hn3 (by rw [hxs]; kernel_rfl) (by rw [hxs, zeroCells_size]) (byteCells_one _) ?_)
  refine named (p := Code.wp _ _ _ _) ?_
  intro W4 hW4
  have hB4 : Below W3.heap.size W3 W4 := by
    rw [hW4]; exact ((Below.refl _ _).alloc (Nat.le_refl _) _).trans ⟨rfl, rfl, rfl, by simp, fun j hj => setRow_other _ _ _ _ (by omega)⟩
  have y3 : Has W4 W3.heap.size (byteCells x) 30 := by rw [hW4]; exact setRow_heap _ _ _ _ _ _ hn3
  clear hW4 hn3
  have hz3 := hB3.size
  rw [World.size_alloc] at hz3
  have hB24 : Below W2.heap.size W2 W4 := (hBa.trans (hB3.mono (by simp))).trans (hB4.mono (by omega))
  have z1 := x1.below (hB02.trans (hB24.mono (by have := hB02.size; omega))) x1.lt
  have z2 := x2.below (hB02.trans (hB24.mono (by have := hB02.size; omega))) x2.lt
  have z3 := y1.below hB24 y1.lt
  have z4 := y2.below hB24 y2.lt
  have hBw4 : Below w.heap.size w W4 := hBw2.trans (hB24.mono (by omega))
  have hz4 := y3.lt
  have hlow5 : w.heap.size + 2 < W3.heap.size := by omega
  obtain ⟨fb, hfb⟩ : ∃ fb, W1.heap.size + 1 = fb := ⟨_, rfl⟩
  obtain ⟨jb, hjb⟩ : ∃ jb, W1.heap.size + 2 = jb := ⟨_, rfl⟩
  obtain ⟨ab, hab⟩ : ∃ ab, W3.heap.size = ab := ⟨_, rfl⟩
  rw [hfb] at z3 z4
  rw [hjb] at z4
  rw [hab] at y3 hz4 hlow5
  have hlt : fb < W4.heap.size ∧ jb < W4.heap.size ∧ ab < W4.heap.size := by omega
  simp only [Nat.add_assoc, Nat.reduceAdd]
  simp only [hfb, hjb, hab]
  clear hB0 x0 x1 x2 y0 y1 y2 hB1 hB2 hB02 hBw2 xl hBa hg2 y0' hB3 hB4 hB24 hfb hjb hab
  go_wp2_with (go_at_call 41; refine (sides_any _ _ _).mono ?_; rintro e w' ⟨rfl, hw⟩; obtain rfl := hw.symm)
  refine (wpIn_wide (n := 10)).1 ?_
  refine named (p := Code.wpIn _ _ _ _ _ _) ?_
  intro W5 hW5
  have hz5 : W5.heap.size = W4.heap.size + 2 := by rw [hW5]; simp
  have hB5 : Below W4.heap.size W4 W5 := by
    rw [hW5]
    repeat (first | exact Below.refl _ _ | refine Below.alloc ?_ (by simp <;> omega) _)
  have v0 : Has W5 W4.heap.size #[.int .i64 (i : Int)] 3 := by
    rw [hW5]; repeat (first | (refine has_new _ _ _ _ ?_; simp; done) | refine has_old ?_)
  have v1 : Has W5 (W4.heap.size + 1) #[.int .i64 (n : Int)] 3 := by
    rw [hW5]; repeat (first | (refine has_new _ _ _ _ ?_; simp; done) | refine has_old ?_)
  clear hW5
  obtain ⟨D, hD⟩ : ∃ D, W5.heap.size = D := ⟨_, rfl⟩
  have hD2 : D ≤ W4.heap.size + 2 := by omega
  have hD3 : W4.heap.size + 2 ≤ D := by omega
  clear hz5
  have hI0 : ∀ W, Below W5.heap.size W5 W → W.heap[D]? = some (.deferred (some [])) → D + 2 ≤ W.heap.size → UpI w jb fb ab D (.slice a m cap) x W := fun W hW h1 h2 => by
    have hB45 : Below W4.heap.size W4 W := hB5.trans (hW.mono (by omega))
    exact ⟨hBw4.trans (hB45.mono (by omega)), h1, h2, z1.below hB45 z1.lt, z2.below hB45 z2.lt, z3.below hB45 z3.lt, z4.below hB45 z4.lt, y3.below hB45 y3.lt, by omega⟩
  clear z1 z2 z3 z4 y3 hBw4
  refine wp_range_leave (gf := 46) (lb := #[.pointer (some ⟨W4.heap.size, 0, none⟩), .pointer (some ⟨W4.heap.size + 1, 0, none⟩)]) rfl (Go.Proofs.enters_of Tryd.func46 (by kernel_rfl) rfl)
    (fun W3 => UpI w jb fb ab D (.slice a m cap) (upL sd ds x) W3) (fun _ _ => False) ?call ?done ?left
  case left => intro c W3 W4 h; exact h.elim
  case done =>
    rintro X3 X4 hI3 hE4 hs4
    rw [hD] at hE4
    have hI4 := hI3.ex hE4
    have hy32 := upL_len sd ds x hm32
    obtain ⟨y, hy⟩ : ∃ y, upL sd ds x = y := ⟨_, rfl⟩
    rw [hy] at hI4 hy32
    have hys : (byteCells y).size = 32 := by rw [byteCells_size, hy32]
    have hra := hI4.acc
    have hrr := hI4.res
    have hrl := hrr.lt
    go_wp2_with (first
      | refine wpList_load_row rfl 30 _ rfl ab rfl 30 (byteCells y) (0, 0) _ hra Tryd.underlying30 rfl (by rw [hys]; kernel_rfl) ?_
      | refine wpList_store_row rfl 30 _ _ rfl (w.heap.size + 2) (byteCells y) rfl rfl 30 _ hrr (by rw [hys]; kernel_rfl) (by rw [hys, zeroCells_size]) (byteCells_one _) ?_)
    have hlt4 := hI4.lt
    have hsz4 := hI4.size
    have hXr := Ex.setRow (w.heap.size + 2) X4 (byteCells y)
    have hK : (X4.setRow (w.heap.size + 2) (byteCells y)).heap[D]? = some (.deferred (some [])) := (hXr.block _ (by omega) (by omega)).trans hI4.dfr
    refine ⟨by simp, .inl ⟨_, _, rfl, run_takeDeferred hK, ?_⟩⟩
    have hP := putObj_ex D (X4.setRow (w.heap.size + 2) (byteCells y)) (.deferred none)
    refine ⟨_, results_two rfl _ _ (w.heap.size + 2) _ _ rfl rfl ((show Has _ _ _ _ from setRow_heap _ _ _ _ _ _ hrr).ex hP (by omega)) hys, ?_, ?_⟩
    · rw [← hy, ← HX.out]
    · have := hXr.size
      exact (hI4.low.trans (hXr.low (by omega) (by omega))).trans (hP.low (by omega) (by omega))
  case call =>
    intro fn V1 hBv hzv hDv hlv
    rw [hD] at hBv hzv hDv hlv ⊢
    refine (hseq 9 (D + 1) W4.heap.size (W4.heap.size + 1) V1
      (fun k W => W.heap[D + 1]? = V1.heap[D + 1]? ∧ UpI w jb fb ab D (.slice a m cap) (upL (sd.take k) (ds.take k) x) W)
      (v0.below hBv (by omega)) (v1.below hBv (by omega)) ?_ ?_).mono ?_
    · intro q
      exact ⟨rfl, by have := hI0 V1 (by rw [hD]; exact hBv) hDv (by omega); exact this.grow ⟨rfl, rfl, rfl, Nat.le_refl _, fun _ _ => rfl⟩⟩
    · intro k b W hk hJ
      obtain ⟨hrec, hI⟩ := hJ
      rw [hlv] at hrec ⊢
      refine (yield_in (R := fun W' => W'.heap[D + 1]? = W.heap[D + 1]? ∧ UpI w jb fb ab D (.slice a m cap) (upL (sd.take (k + 1)) (ds.take (k + 1)) x) W') (Rx := fun _ _ => False) hrec rfl ?_).mono ?_
      · clear hrec hlv hI0 hDv hBv hzv hseq hst v0 v1 hB5
        intro RR RB hrr
        have HR : Hid (W.heap[D + 1]? = some RR) := hrr
        clear hrr
        have hkl := (List.getElem?_eq_some_iff.1 hk).1
        have hkm : k < m := by have := HL.out; omega
        have hkd : k < ds.length := by have := HL.out; omega
        obtain rfl := ha (by intro e; simp [e] at hkd)
        have hstep := upL_take (qs := ds) (by have := HL.out; omega) hk x
        have hq32 := h32.at_ hkd
        have hrq := hinn k hkd
        obtain ⟨q, hqq⟩ : ∃ q, ds[k]?.getD [] = q := ⟨_, rfl⟩
        rw [hqq] at hstep hq32 hrq
        have hy32 := upL_len (sd.take k) (ds.take k) x hm32
        obtain ⟨y, hyy⟩ : ∃ y, upL (sd.take k) (ds.take k) x = y := ⟨_, rfl⟩
        rw [hyy] at hstep hy32 hI
        clear hqq hyy
        cases b with
        | true =>
          rw [if_pos rfl] at hstep
          gi_wp2
          refine ⟨HR.out, ?_⟩
          intro W5 hE5 hs5 hl5
          clear hs5
          have HL5 : Hid (W5.heap[D + 1]? = some RB) := hl5
          clear hl5
          have hI5 := hI.ex hE5
          clear hI
          have hrg : W5.rangeAt g (o + k * 32) (byteCells q).toList := rangeAt_block hrq (hI5.low.block g hgl)
          have hgl5 : g < W5.heap.size := Nat.lt_of_lt_of_le hgl hI5.low.size
          have hS0 : W5.cell? ⟨jb, 0, none⟩ = some (.func (.func 44) #[] #[.pointer (some ⟨fb, 0, none⟩)]) ∧ W5.cell? ⟨w.heap.size + 1, 0, none⟩ = some (.slice (some ⟨g, o, none⟩) m cap) ∧ Has W5 ab (byteCells y) 30 ∧ W5.rangeAt g (o + k * 32) (byteCells q).toList := ⟨hI5.jn.one, hI5.path.one, hI5.acc, hrg⟩
          gi_wp2
          refine wpIn_round_K (S := fun X => X.cell? ⟨jb, 0, none⟩ = some (.func (.func 44) #[] #[.pointer (some ⟨fb, 0, none⟩)]) ∧ X.cell? ⟨w.heap.size + 1, 0, none⟩ = some (.slice (some ⟨g, o, none⟩) m cap) ∧ Has X ab (byteCells y) 30 ∧ X.rangeAt g (o + k * 32) (byteCells q).toList) (fun i => decide (i < 8)) (by kernel_rfl) (by kernel_rfl) ?_
          refine K_take (i := 0) (v := .func (.func 44) #[] #[.pointer (some ⟨fb, 0, none⟩)]) rfl (by kernel_rfl) (by kernel_rfl) (by kernel_rfl) (by kernel_rfl) (by kernel_rfl) (by rfl) (fun w' hS => by obtain ⟨h1, h2, h3, h4⟩ := hS; go_simp) hS0 ?_
          refine K_take (i := 1) (v := .slice (some ⟨g, o, none⟩) m cap) rfl (by kernel_rfl) (by kernel_rfl) (by kernel_rfl) (by kernel_rfl) (by kernel_rfl) (by rfl) (fun w' hS => by obtain ⟨h1, h2, h3, h4⟩ := hS; go_simp) hS0 ?_
          refine K_take (i := 2) (v := .int .i64 (k : Int)) rfl (by kernel_rfl) (by kernel_rfl) (by kernel_rfl) (by kernel_rfl) (by kernel_rfl) (by rfl) (fun w' hS => by go_simp) hS0 ?_
          refine K_take (i := 5) (v := .agg (byteCells y)) rfl (by kernel_rfl) (by kernel_rfl) (by kernel_rfl) (by kernel_rfl) (by kernel_rfl) (by rfl) (fun w' hS => by exact run_load_row _ rfl ab rfl y hy32 hS.2.2.1) hS0 ?_
          refine K_take (i := 3) (v := .pointer (some ⟨g, o + k * 32, none⟩)) rfl (by kernel_rfl) (by kernel_rfl) (by kernel_rfl) (by kernel_rfl) (by kernel_rfl) (by rfl) (fun w' hS => by go_simp) hS0 ?_
          refine K_take (i := 4) (v := .agg (byteCells q)) rfl (by kernel_rfl) (by kernel_rfl) (by kernel_rfl) (by kernel_rfl) (by kernel_rfl) (by rfl) (fun w' hS => by exact run_load_mid _ rfl g (o + k * 32) rfl q hq32 hS.2.2.2) hS0 ?_
          refine K_next (i := 6) (by kernel_rfl) rfl (by rfl) (fun K hK => ?_)
          refine op_run (run_build_two _ _ (.tmp 50) (.tmp 51) q y _ hq32 hy32 rfl (by kernel_rfl) (by kernel_rfl)) ?_
          have hdgs := digs_new W5.drew [q, y] (All32.two hq32 hy32) (by simp)
          have hB7 : Below W5.heap.size W5 (W5.drew.alloc (.cells ([q, y].flatten.map bc).toArray 30)) := (Below.refl _ W5).drew.alloc (Nat.le_refl _) _
          obtain ⟨W7, hW7⟩ : ∃ W7, W5.drew.alloc (.cells ([q, y].flatten.map bc).toArray 30) = W7 := ⟨_, rfl⟩
          rw [hW7] at hdgs hB7 ⊢
          clear hW7
          have hI7 := hI5.grow hB7
          refine hK _ _ (fun _ => ⟨hI7.jn.one, hI7.path.one, hI7.acc, rangeAt_block hrg (hB7.block g hgl5)⟩) ?_
          clear hK
          refine K_next (i := 7) (by kernel_rfl) rfl (by rfl) (fun K hK => ?_)
          go_simp
          have hg7 := hg.below hI7.low hg.size
          refine (behind1_any 1 fb _ [q, y] W7 hI7.one.one hI7.one.lt hdgs (by simp) hg7).mono ?_
          rintro e W8 ⟨rfl, hB8⟩
          have hI8 := hI7.grow hB8
          have hbt : bothL q y = shaL (1 :: [q, y].flatten) := by simp [bothL]
          rw [← hbt]
          have hz32 : (bothL q y).length = 32 := both_len _ _
          obtain ⟨z, hz⟩ : ∃ z, bothL q y = z := ⟨_, rfl⟩
          rw [hz] at hz32 hbt hstep ⊢
          refine hK _ _ (fun _ => ⟨hI8.jn.one, hI8.path.one, hI8.acc, rangeAt_block (rangeAt_block hrg (hB7.block g hgl5)) (hB8.block g (Nat.lt_of_lt_of_le hgl5 hB7.size))⟩) ?_
          clear hK hbt
          refine K_next (i := 8) (by kernel_rfl) rfl (by rfl) (fun K hK => ?_)
          refine wp_store_dig _ _ rfl ab z (by kernel_rfl) (by kernel_rfl) hz32 _ hI8.acc (by rw [byteCells_size, hy32]) ?_
          refine hK _ _ (fun h => absurd h (by decide)) (K_done (by kernel_rfl) ?_)
          clear hK
          have hI9 := hI8.set z
          have hLL : (W8.setRow ab (byteCells z)).heap[D + 1]? = some RB := (setRow_other _ _ _ _ (by have := hI8.lt; omega)).trans ((hB8.block _ (by have := hI7.size; omega)).trans ((hB7.block _ (by have := hI5.size; omega)).trans HL5.out))
          exact ⟨hLL, fun W6 hE6 hs6 hl6 => ⟨hl6.trans HR.out.symm, by rw [hz]; exact hI9.ex hE6⟩⟩
        | false =>
          rw [if_neg (by decide)] at hstep
          gi_wp2
          refine ⟨HR.out, ?_⟩
          intro W5 hE5 hs5 hl5
          clear hs5
          have HL5 : Hid (W5.heap[D + 1]? = some RB) := hl5
          clear hl5
          have hI5 := hI.ex hE5
          clear hI
          have hrg : W5.rangeAt g (o + k * 32) (byteCells q).toList := rangeAt_block hrq (hI5.low.block g hgl)
          have hgl5 : g < W5.heap.size := Nat.lt_of_lt_of_le hgl hI5.low.size
          have hS0 : W5.cell? ⟨jb, 0, none⟩ = some (.func (.func 44) #[] #[.pointer (some ⟨fb, 0, none⟩)]) ∧ W5.cell? ⟨w.heap.size + 1, 0, none⟩ = some (.slice (some ⟨g, o, none⟩) m cap) ∧ Has W5 ab (byteCells y) 30 ∧ W5.rangeAt g (o + k * 32) (byteCells q).toList := ⟨hI5.jn.one, hI5.path.one, hI5.acc, hrg⟩
          gi_wp2
          refine wpIn_round_K (S := fun X => X.cell? ⟨jb, 0, none⟩ = some (.func (.func 44) #[] #[.pointer (some ⟨fb, 0, none⟩)]) ∧ X.cell? ⟨w.heap.size + 1, 0, none⟩ = some (.slice (some ⟨g, o, none⟩) m cap) ∧ Has X ab (byteCells y) 30 ∧ X.rangeAt g (o + k * 32) (byteCells q).toList) (fun i => decide (i < 8)) (by kernel_rfl) (by kernel_rfl) ?_
          refine K_take (i := 0) (v := .func (.func 44) #[] #[.pointer (some ⟨fb, 0, none⟩)]) rfl (by kernel_rfl) (by kernel_rfl) (by kernel_rfl) (by kernel_rfl) (by kernel_rfl) (by rfl) (fun w' hS => by obtain ⟨h1, h2, h3, h4⟩ := hS; go_simp) hS0 ?_
          refine K_take (i := 1) (v := .agg (byteCells y)) rfl (by kernel_rfl) (by kernel_rfl) (by kernel_rfl) (by kernel_rfl) (by kernel_rfl) (by rfl) (fun w' hS => by exact run_load_row _ rfl ab rfl y hy32 hS.2.2.1) hS0 ?_
          refine K_take (i := 2) (v := .slice (some ⟨g, o, none⟩) m cap) rfl (by kernel_rfl) (by kernel_rfl) (by kernel_rfl) (by kernel_rfl) (by kernel_rfl) (by rfl) (fun w' hS => by obtain ⟨h1, h2, h3, h4⟩ := hS; go_simp) hS0 ?_
          refine K_take (i := 3) (v := .int .i64 (k : Int)) rfl (by kernel_rfl) (by kernel_rfl) (by kernel_rfl) (by kernel_rfl) (by kernel_rfl) (by rfl) (fun w' hS => by go_simp) hS0 ?_
          refine K_take (i := 4) (v := .pointer (some ⟨g, o + k * 32, none⟩)) rfl (by kernel_rfl) (by kernel_rfl) (by kernel_rfl) (by kernel_rfl) (by kernel_rfl) (by rfl) (fun w' hS => by go_simp) hS0 ?_
          refine K_take (i := 5) (v := .agg (byteCells q)) rfl (by kernel_rfl) (by kernel_rfl) (by kernel_rfl) (by kernel_rfl) (by kernel_rfl) (by rfl) (fun w' hS => by exact run_load_mid _ rfl g (o + k * 32) rfl q hq32 hS.2.2.2) hS0 ?_
          refine K_next (i := 6) (by kernel_rfl) rfl (by rfl) (fun K hK => ?_)
          refine op_run (run_build_two _ _ (.tmp 55) (.tmp 59) y q _ hy32 hq32 rfl (by kernel_rfl) (by kernel_rfl)) ?_
          have hdgs := digs_new W5.drew [y, q] (All32.two hy32 hq32) (by simp)
          have hB7 : Below W5.heap.size W5 (W5.drew.alloc (.cells ([y, q].flatten.map bc).toArray 30)) := (Below.refl _ W5).drew.alloc (Nat.le_refl _) _
          obtain ⟨W7, hW7⟩ : ∃ W7, W5.drew.alloc (.cells ([y, q].flatten.map bc).toArray 30) = W7 := ⟨_, rfl⟩
          rw [hW7] at hdgs hB7 ⊢
          clear hW7
          have hI7 := hI5.grow hB7
          refine hK _ _ (fun _ => ⟨hI7.jn.one, hI7.path.one, hI7.acc, rangeAt_block hrg (hB7.block g hgl5)⟩) ?_
          clear hK
          refine K_next (i := 7) (by kernel_rfl) rfl (by rfl) (fun K hK => ?_)
          go_simp
          have hg7 := hg.below hI7.low hg.size
          refine (behind1_any 1 fb _ [y, q] W7 hI7.one.one hI7.one.lt hdgs (by simp) hg7).mono ?_
          rintro e W8 ⟨rfl, hB8⟩
          have hI8 := hI7.grow hB8
          have hbt : bothL y q = shaL (1 :: [y, q].flatten) := by simp [bothL]
          rw [← hbt]
          have hz32 : (bothL y q).length = 32 := both_len _ _
          obtain ⟨z, hz⟩ : ∃ z, bothL y q = z := ⟨_, rfl⟩
          rw [hz] at hz32 hbt hstep ⊢
          refine hK _ _ (fun _ => ⟨hI8.jn.one, hI8.path.one, hI8.acc, rangeAt_block (rangeAt_block hrg (hB7.block g hgl5)) (hB8.block g (Nat.lt_of_lt_of_le hgl5 hB7.size))⟩) ?_
          clear hK hbt
          refine K_next (i := 8) (by kernel_rfl) rfl (by rfl) (fun K hK => ?_)
          refine wp_store_dig _ _ rfl ab z (by kernel_rfl) (by kernel_rfl) hz32 _ hI8.acc (by rw [byteCells_size, hy32]) ?_
          refine hK _ _ (fun h => absurd h (by decide)) (K_done (by kernel_rfl) ?_)
          clear hK
          have hI9 := hI8.set z
          have hLL : (W8.setRow ab (byteCells z)).heap[D + 1]? = some RB := (setRow_other _ _ _ _ (by have := hI8.lt; omega)).trans ((hB8.block _ (by have := hI7.size; omega)).trans ((hB7.block _ (by have := hI5.size; omega)).trans HL5.out))
          exact ⟨hLL, fun W6 hE6 hs6 hl6 => ⟨hl6.trans HR.out.symm, by rw [hz]; exact hI9.ex hE6⟩⟩
      · rintro e W' (⟨rfl, h1, h2⟩ | ⟨_, _, _, h⟩)
        · exact ⟨rfl, h1.trans hrec, h2⟩
        · exact h.elim
    · rintro e W3 ⟨rfl, h1, h2⟩
      refine ⟨⟨_, rfl⟩, .inl ⟨h1, ?_⟩⟩
      rwa [List.take_of_length_le (Nat.le_refl _), List.take_of_length_le (by have := HL.out; omega)] at h2
end Go.Proofs.YtcmkjgodgocdfaaDoor
