/- The law ShaCuts. -/
import Derived.Test.YtkcngkkjlnadiaaDoorK1
import Derived.Test.YtkcngkkjlnadiaaDoorK3
import Derived.Test.YtkcngkkjlnadiaaDoorR3
namespace Go.Proofs.YtkcngkkjlnadiaaDoor
open Go.RowKit

theorem wpList_slice_run {P : Program} {ops : Array Oper} {rest : List Oper} {o : Oper} {a : Act} {w : World} {Q : Exit → Act → World → Prop} (hw : Region.wanted o (yielded ops a.tmps) = true)
    (t : TypeId) (x : Operand) (lo hi : Option Operand) (ho : o.op = .slice t x lo hi none) (xv v : Value) (lv hv : Option Value) (hx : a.eval x = xv) (hl : lo.map a.eval = lv) (hh : hi.map a.eval = hv) (hrun : (Instr.sliceAt t xv lv hv none).run P w = .ok v w)
    (h : wpList P ops Q rest (a.put o.dst v) w) : wpList P ops Q (o :: rest) a w := by
  refine wpList_run hw ?_ h
  unfold execOp
  simp only [ho, hx, hl, hh, Option.map_none, Sem.run_bind, hrun, Sem.run_pure, Result.andThen_ok]
theorem take_mid (b : List UInt8) (t u : Nat) (h : t ≤ u) : b.take t ++ (b.drop t).take (u - t) = b.take u := by
  have := List.take_add (l := b) (i := t) (j := u - t)
  rw [show t + (u - t) = u by omega] at this
  exact this.symm
theorem Cut.ex {B : Nat} {w0 w w' : World} {pv : Value} {k : Nat} {ps : List (List UInt8)} {xs : List Value} {b : Nat} (h : Cut B w0 w pv k ps xs) (e : Ex b w w') (hb : b < B) : Cut B w0 w' pv k ps xs :=
  ⟨World.ownsRow.kept (row := some b) h.own ⟨e.os, e.tape, e.output, e.size, fun i hi hn => e.block i hi (fun q => hn (by rw [q]))⟩ (.inr fun q => by have := (h.own.lt b q).1; omega), h.len, h.each⟩
theorem Cut.below {B : Nat} {w0 w w' : World} {pv : Value} {k : Nat} {ps : List (List UInt8)} {xs : List Value} (h : Cut B w0 w pv k ps xs) (e : Below w.heap.size w w') : Cut B w0 w' pv k ps xs := ⟨ownsRow_below h.own e, h.len, h.each⟩

theorem Parts.below {w w' : World} {v : Value} {ds : List (List UInt8)} (h : Parts w v ds) (k : Below w.heap.size w w') : Parts w' v ds := by
  obtain ⟨a, cap, pb, po, h1, h2, h3, h4, h5⟩ := h
  refine ⟨a, cap, pb, po, h1, h2, fun i hi => ?_, Nat.lt_of_lt_of_le h4 k.size, h5⟩
  obtain ⟨sv, hs, hb⟩ := h3 i hi
  exact ⟨sv, (k.cell (p := ⟨pb, po + i, none⟩) h4).trans hs, hb.below k⟩
/-- What is known of the world from the last part on. -/
structure CK (w : World) (R : Nat) (b : List UInt8) (v0 pv : Value) (ps : List (List UInt8)) (W : World) : Prop where
  bw : Below w.heap.size w W
  hash : HashAt W w.heap.size b
  row : Has W R (byteCells (shaL b)) 25
  parts : Parts W pv ps
  bytes : Bytes W v0 b
theorem CK.below {w : World} {R : Nat} {b : List UInt8} {v0 pv : Value} {ps : List (List UInt8)} {W W' : World} (h : CK w R b v0 pv ps W) (k : Below W.heap.size W W') : CK w R b v0 pv ps W' :=
  ⟨h.bw.trans (k.mono h.bw.size), h.hash.below k h.hash.lt, h.row.below k h.row.lt, h.parts.below k, h.bytes.below k⟩

def cutsΦ (D : List UInt8) (ap a0 : Option Addr) (ql cp bl c0 hb : Nat) : Nat → Value → World → Prop
  | 0, v, _ => v = .slice ap ql cp
  | 1, v, _ => v = .agg (byteCells D)
  | 2, v, _ => v = .agg (byteCells D)
  | 3, v, _ => v = .bool true
  | 4, v, _ => v = .bool true
  | 5, v, _ => v = .pointer (some ⟨hb, 0, none⟩)
  | 6, v, _ => v = .agg (byteCells D)
  | 7, v, _ => v = .agg (byteCells D)
  | 8, v, _ => v = .bool true
  | 9, v, _ => v = .bool true
  | 10, v, _ => v = .bool true
  | 11, v, _ => v = .pointer (some ⟨hb, 0, none⟩)
  | 12, v, _ => v = .int .i64 bl
  | 13, v, _ => v = .slice a0 bl c0
  | 14, v, _ => v = .int .i64 bl
  | 15, v, _ => v = .bool true
  | 16, v, _ => v = .bool true
  | 17, v, _ => v = .bool true
  | 18, v, _ => v = .agg (byteCells D)
  | 19, v, _ => v = .agg (byteCells D)
  | 20, v, _ => v = .bool true
  | 21, v, _ => v = .bool true
  | 22, v, _ => v = .bool true
  | 23, v, _ => v = .int .i64 0
  | 24, v, _ => v = .int .i64 0
  | 25, v, _ => v = .bool true
  | 26, v, _ => v = .bool true
  | 27, v, _ => v = .bool true
  | 28, v, _ => v = .bool true
  | 29, v, _ => v = .bool true
  | 30, v, _ => v = .bool true
  | _, _, _ => False

set_option maxRecDepth 100000 in
set_option maxHeartbeats 8000000 in
theorem cuts_walk (v0 vc : Value) (b s : List UInt8) (ns : List Int) (w : World) (hb : Bytes w v0 b) (hn : Nums w vc ns) (hg0 : Glob w) (hin : b.length ≤ 2000 ∧ ns.length ≤ 30 ∧ s.length ≤ 1000) :
    Calls Tryd.prog 14 #[v0, vc, .string ⟨s.toArray⟩] w fun e w' => e = .returned (.bool true) ∧ Below w.heap.size w w' := by
  have hgs := hg0.size
  obtain ⟨a0, c0, d0, o0, rfl, hc0, _⟩ := id hb
  obtain ⟨an, cn, dn, on, rfl, han, hcn, hdn⟩ := hn
  have i0 : ¬ (2000 : Int) < (b.length : Int) := by omega
  have i1 : ¬ (30 : Int) < (ns.length : Int) := by omega
  have i2 : ¬ (1000 : Int) < (s.length : Int) := by omega
  have H : Hid (b.length ≤ 2000 ∧ ns.length ≤ 30 ∧ s.length ≤ 1000 ∧ b.length ≤ c0) := ⟨hin.1, hin.2.1, hin.2.2, hc0⟩
  clear hin hc0
  go_enter Tryd.func14, Tryd.ntmps14
  go_wp2_with fail
  refine (new_any w hg0).mono ?_
  rintro e W1 ⟨rfl, hB1, hH1⟩
  have hlt : Hid (w.heap.size < W1.heap.size) := hH1.lt
  go_wp2_with fail
  go_loopw [8, 9, 10] (fun pv at_ i wr => ∃ k t : Nat, k ≤ ns.length ∧ Hid (t ≤ b.length) ∧ i = .int .i64 k ∧ at_ = .int .i64 t ∧ HashAt wr w.heap.size (b.take t) ∧ Ex w.heap.size W1 wr ∧ ∃ ps xs, Cut W1.heap.size w wr pv k ps xs ∧ Hid (ps.flatten = b.take t)) (fun _ _ i _ => ns.length - (intOf i).toNat)
  case atStart => exact ⟨0, 0, by omega, Nat.zero_le _, rfl, rfl, by simpa using hH1, Ex.refl _ _, [], [], ⟨World.ownsRow_nil _ _ _ _, rfl, fun j hj => absurd hj (by omega)⟩, by show _ = _; simp⟩
  case round =>
    obtain ⟨k, t, hk, ht, rfl, rfl, hH, hE, ps, xs, hC, hps⟩ := hrel
    have hBr : Below w.heap.size w wr := Below.ex hB1 hB1.size hE (Nat.le_refl _)
    by_cases hkn : k < ns.length
    · obtain rfl := han (by intro e; simp [e] at hkn)
      have cl := (hBr.cell (p := ⟨dn, on + k, none⟩) hdn).trans (hcn k hkn)
      have i3 : (k : Int) < ns.length := by omega
      have HK : Hid (k < ns.length) := hkn
      generalize ns[k]?.getD 0 = c at *
      clear hkn hk hcn
      obtain ⟨m, f1⟩ : ∃ m : Int, (if c < (b.length : Int) then c else (b.length : Int)) = m := ⟨_, rfl⟩
      have hm : m ≤ (b.length : Int) := by rw [← f1]; split <;> omega
      obtain ⟨u, f2, hu⟩ : ∃ u : Nat, (if (t : Int) < m then m else (t : Int)) = (u : Int) ∧ Hid (t ≤ u ∧ u ≤ b.length) := by
        have := ht.out
        by_cases h : (t : Int) < m
        · exact ⟨m.toNat, by rw [if_pos h]; omega, by omega, by omega⟩
        · exact ⟨t, by rw [if_neg h], Nat.le_refl _, this⟩
      clear hm
      go_upto_region 10 with (fail)
      clear f1 f2
      have hsl := fun w => (run_sliceAt22 (.slice a0 b.length c0) (some (.int .i64 (t : Int))) (some (.int .i64 (u : Int))) none w).trans (slice_mid22 a0 b.length c0 t u hu.out.1 (by have := hu.out; have := H.out; omega) w)
      have hby := hb.mid t u hu.out.1 hu.out.2
      have Htm : Hid (b.take t ++ (b.drop t).take (u - t) = b.take u) := take_mid b t u hu.out.1
      have hdl : Hid (((b.drop t).take (u - t)).length ≤ 2000) := by show _ ≤ _; have := H.out; simp; omega
      generalize (if c0 = t then a0 else a0.map (·.add (t * 1))) = PA at *
      generalize (b.drop t).take (u - t) = dd at *
      generalize u - t = nl at *
      generalize c0 - t = cc at *
      obtain ⟨j0, hi, hz0, hz1, hz2⟩ := info_parts info22
      have hn3 := has_new wr #[Value.slice PA nl cc] 22 wr.heap.size rfl
      have hWs : Hid (W1.heap.size ≤ wr.heap.size) := hE.size
      go_wp2_with (first
        | refine wpList_slice_run rfl 22 _ _ _ rfl _ _ _ _ rfl rfl rfl (hsl _) ?_
        | (refine wpList_append_own _ rfl _ _ 28 rfl W1.heap.size 22 j0 (.slice none 0 0) 1 24 Tryd.underlying28 hi hz0 hz1 hz2 rfl (by omega) _ k xs rfl (hC.own.alloc _) ⟨wr.heap.size, 0, none⟩ 1 1 [Value.slice PA nl cc] rfl rfl (fun j u hu => by rw [Addr.add_mid, Nat.zero_add]; refine (hn3.cell j).trans ?_; rw [← hu]; simp) (fun u hu => by simp at hu; subst hu; rfl) (by have := HK.out; have := H.out; simp only [maxLen]; omega) (by have := HK.out; have := H.out; omega) (by have := hWs.out; simp; omega) ?_; intro v4 w4 hown4 hg4 hnil; clear hnil))
      have hg4' : (wr.alloc (.cells #[Value.slice PA nl cc] 22)).grownBy w4 u8.ownBlock := hg4
      clear hg4
      have hBk : Below W1.heap.size wr w4 := below_grown (Below.refl _ _) hg4' (fun g hg => (hC.own.lt g hg).1) hE.size
      have hE4 : Ex w.heap.size W1 w4 := ⟨hBk.os.trans hE.os, hBk.tape.trans hE.tape, hBk.output.trans hE.output, Nat.le_trans hE.size hBk.size, fun i hi hb => (hBk.block i hi).trans (hE.block i hi hb)⟩
      have hH4 := hH.below hBk hlt.out
      have hC4 := hC.snoc hown4 hby
      have hBw4 : Below w.heap.size w w4 := Below.ex hB1 hB1.size hE4 (Nat.le_refl _)
      refine (write_any w.heap.size (b.take t) dd _ w4 hH4 ((hby.of _ (Nat.le_refl _)).below hBw4) (hg0.below hBw4 hgs) hgs (by have := hdl.out; have := H.out; simp; omega)).mono ?_
      rintro e W5 ⟨rfl, hE5, hH5⟩
      rw [Htm.out] at hH5
      have hC5 := hC4.ex hE5 hlt.out
      have hE6 := hE4.trans hE5
      have hfl : Hid ((ps ++ [dd]).flatten = b.take u) := by show _ = _; rw [List.flatten_append, hps.out, ← Htm.out]; simp
      clear hE4 hE5 hH4 hC4 hBk hg4' hown4 hsl hn3 hC hE hH hBr hBw4 hby
      go_wp2_with fail
      go_roundw
      case rel => exact ⟨k + 1, u, HK.out, hu.out.2, by go_num, rfl, hH5, hE6, _, _, hC5, hfl⟩
      case measure => have := HK.out; simp [intOf]; omega
    · obtain rfl : k = ns.length := by omega
      clear hkn hk hcn
      have hsl := fun w => (run_sliceAt22 (.slice a0 b.length c0) (some (.int .i64 (t : Int))) none none w).trans (slice_left22 a0 b.length c0 t ht.out w)
      have hby := hb.mid t b.length ht.out (Nat.le_refl _)
      have Htm : Hid (b.take t ++ (b.drop t).take (b.length - t) = b) := by show _ = _; rw [take_mid b t b.length ht.out, List.take_length]
      have hdl : Hid (((b.drop t).take (b.length - t)).length ≤ 2000) := by show _ ≤ _; have := H.out; simp; omega
      generalize (if c0 = t then a0 else a0.map (·.add (t * 1))) = PA at *
      generalize (b.drop t).take (b.length - t) = dd at *
      generalize b.length - t = nl at *
      generalize c0 - t = cc at *
      obtain ⟨j0, hi, hz0, hz1, hz2⟩ := info_parts info22
      have hn3 := has_new wr #[Value.slice PA nl cc] 22 wr.heap.size rfl
      have hWs : Hid (W1.heap.size ≤ wr.heap.size) := hE.size
      go_wp2_with (first
        | refine wpList_slice_run rfl 22 _ _ _ rfl _ _ _ _ rfl rfl rfl (hsl _) ?_
        | (refine wpList_append_own _ rfl _ _ 28 rfl W1.heap.size 22 j0 (.slice none 0 0) 1 24 Tryd.underlying28 hi hz0 hz1 hz2 rfl (by omega) _ ns.length xs rfl (hC.own.alloc _) ⟨wr.heap.size, 0, none⟩ 1 1 [Value.slice PA nl cc] rfl rfl (fun j u hu => by rw [Addr.add_mid, Nat.zero_add]; refine (hn3.cell j).trans ?_; rw [← hu]; simp) (fun u hu => by simp at hu; subst hu; rfl) (by have := H.out; simp only [maxLen]; omega) (by have := H.out; omega) (by have := hWs.out; simp; omega) ?_; intro v4 w4 hown4 hg4 hnil; clear hnil))
      have hg4' : (wr.alloc (.cells #[Value.slice PA nl cc] 22)).grownBy w4 u8.ownBlock := hg4
      clear hg4
      have hBk : Below W1.heap.size wr w4 := below_grown (Below.refl _ _) hg4' (fun g hg => (hC.own.lt g hg).1) hE.size
      have hE4 : Ex w.heap.size W1 w4 := ⟨hBk.os.trans hE.os, hBk.tape.trans hE.tape, hBk.output.trans hE.output, Nat.le_trans hE.size hBk.size, fun i hi hb => (hBk.block i hi).trans (hE.block i hi hb)⟩
      have hH4 := hH.below hBk hlt.out
      have hC4 := hC.snoc hown4 hby
      have hBw4 : Below w.heap.size w w4 := Below.ex hB1 hB1.size hE4 (Nat.le_refl _)
      refine (write_any w.heap.size (b.take t) dd _ w4 hH4 ((hby.of _ (Nat.le_refl _)).below hBw4) (hg0.below hBw4 hgs) hgs (by have := hdl.out; have := H.out; simp; omega)).mono ?_
      rintro e W5 ⟨rfl, hE5, hH5⟩
      rw [Htm.out] at hH5
      have hC5 := hC4.ex hE5 hlt.out
      have hE6 := hE4.trans hE5
      have hfl : (ps ++ [dd]).flatten = b := by rw [List.flatten_append, hps.out]; simpa using Htm.out
      have hB5 : Below w.heap.size w W5 := Below.ex hB1 hB1.size hE6 (Nat.le_refl _)
      have hP5 : Parts W5 v4 (ps ++ [dd]) := hC5.parts (fun sv d h => h.below hB5) (by have := hB5.size; omega) (by rw [hfl]; have := H.out; omega) (by rw [hC5.len]; have := H.out; omega)
      have hb5 := hb.below hB5
      clear hE4 hE5 hH4 hC4 hBk hg4' hown4 hsl hn3 hC hE hH hBr hBw4 hby hC5 hE6 hB1 hH1 hps
      generalize ps ++ [dd] = qs at *
      obtain ⟨ap, cp, pb, po, rfl, _⟩ := id hP5
      go_wp2_with fail
      refine (sum1_any _ b W5 hb5 (hg0.below hB5 hgs) (by have := H.out; omega)).mono ?_
      rintro e W6 ⟨rfl, hB6⟩
      have hH6 := hH5.below hB6 hH5.lt
      have hP6 := hP5.below hB6
      have hb6 := hb5.below hB6
      have hBw6 : Below w.heap.size w W6 := hB5.trans (hB6.mono hB5.size)
      clear hH5 hP5 hb5 hB5 hB6
      have sd : (byteCells (shaL b)).size = 32 := by rw [byteCells_size, shaL_length]
      have hn6 := has_new W6 (zeroCells 32) 25 W6.heap.size rfl
      go_wp2_with (refine wpList_store_row rfl 25 _ _ rfl W6.heap.size (byteCells (shaL b)) rfl rfl 25 _ hn6 (by rw [sd]; kernel_rfl) (by rw [sd, zeroCells_size]) (byteCells_one _) ?_)
      refine named (p := fun X => Calls _ _ _ X _) ?_
      intro W7 hW7
      have hB7 : Below W6.heap.size W6 W7 := by rw [hW7]; exact ((Below.refl _ _).alloc (Nat.le_refl _) _).trans ⟨rfl, rfl, rfl, by simp, fun j hj => setRow_other _ _ _ _ (by omega)⟩
      have hr7 : Has W7 W6.heap.size (byteCells (shaL b)) 25 := by rw [hW7]; exact setRow_heap _ _ _ _ _ _ hn6
      have hK7 : CK w W6.heap.size b (.slice a0 b.length c0) (.slice ap qs.length cp) qs W7 := ⟨hBw6.trans (hB7.mono hBw6.size), hH6.below hB7 hH6.lt, hr7, hP6.below hB7, hb6.below hB7⟩
      clear hW7 hn6 hB7 hr7 hH6 hP6 hb6 hBw6
      generalize W6.heap.size = R at *
      refine (parse_any s W7).mono ?_
      rintro e W8 ⟨rfl, hB8⟩
      have hK8 := hK7.below hB8
      clear hK7 hB8
      have hpl := parseD_length s
      have hbk : Hid (parseE s = 0 → textL (parseD s) = s) := parse_back s
      have hor := parseE_or s
      generalize parseD s = X at *
      generalize parseE s = E at *
      have sx : (byteCells X).size = 32 := by rw [byteCells_size, hpl]
      have hn8 := has_new W8 (zeroCells 32) 25 W8.heap.size rfl
      go_wp2_with (refine wpList_store_row rfl 25 _ _ rfl W8.heap.size (byteCells X) rfl rfl 25 _ hn8 (by rw [sx]; kernel_rfl) (by rw [sx, zeroCells_size]) (byteCells_one _) ?_)
      refine named (p := fun X => Calls _ _ _ X _) ?_
      intro W9 hW9
      have hB9 : Below W8.heap.size W8 W9 := by rw [hW9]; exact ((Below.refl _ _).alloc (Nat.le_refl _) _).trans ⟨rfl, rfl, rfl, by simp, fun j hj => setRow_other _ _ _ _ (by omega)⟩
      have hr9 : Has W9 W8.heap.size (byteCells X) 25 := by rw [hW9]; exact setRow_heap _ _ _ _ _ _ hn8
      have hK9 := hK8.below hB9
      clear hW9 hn8 hB9 hK8
      generalize W8.heap.size = S at *
      refine (num_any _ _).mono ?_
      rintro e w' ⟨rfl, hw⟩; obtain rfl := hw.symm; clear hw
      rcases hor with rfl | rfl
      · have htx := hbk.out rfl
        go_wp2_with (refine wpList_load_row_if (by rfl) 25 _ rfl S rfl 25 (byteCells X) (0, 0) _ hr9 Tryd.underlying25 rfl (by rw [sx]; kernel_rfl) ?_)
        refine (text_any X hpl W9).mono ?_
        rw [htx]
        rintro e Wa ⟨rfl, hBa⟩
        have hKa := hK9.below hBa
        clear hK9 hBa hr9 htx
        have hT := parse_text (shaL b) (shaL_length b)
        go_wp2_with (refine wpList_load_row rfl 25 _ rfl R rfl 25 (byteCells (shaL b)) (0, 0) _ hKa.row Tryd.underlying25 rfl (by rw [sd]; kernel_rfl) ?_)
        refine (text_any (shaL b) (shaL_length b) Wa).mono ?_
        rintro e Wb ⟨rfl, hBb⟩
        have hKb := hKa.below hBb
        clear hKa hBb
        go_wp2_with fail
        refine (parse_any (textL (shaL b)) Wb).mono ?_
        rw [hT.1, hT.2]
        rintro e Wc ⟨rfl, hBc⟩
        have hKc := hKb.below hBc
        clear hKb hBc hT
        have hnc := has_new Wc (zeroCells 32) 25 Wc.heap.size rfl
        go_wp2_with (refine wpList_store_row rfl 25 _ _ rfl Wc.heap.size (byteCells (shaL b)) rfl rfl 25 _ hnc (by rw [sd]; kernel_rfl) (by rw [sd, zeroCells_size]) (byteCells_one _) ?_)
        refine named (p := Code.wp _ _ _ _) ?_
        intro W0 hW0
        have hBd : Below Wc.heap.size Wc W0 := by rw [hW0]; exact ((Below.refl _ _).alloc (Nat.le_refl _) _).trans ⟨rfl, rfl, rfl, by simp, fun j hj => setRow_other _ _ _ _ (by omega)⟩
        have row2 : Has W0 Wc.heap.size (byteCells (shaL b)) 25 := by rw [hW0]; exact setRow_heap _ _ _ _ _ _ hnc
        have hKd := hKc.below hBd
        clear hW0 hnc hBd hKc
        generalize Wc.heap.size = R2 at *
        obtain ⟨N, hNe⟩ : ∃ N, N = W0.heap.size := ⟨_, rfl⟩
        have hN : N ≤ W0.heap.size := by omega
        have hN2 : 2 ≤ N := by rw [hNe]; have := hKd.bw.size; omega
        have hgl := hg0.below hKd.bw hgs
        have hlt' : w.heap.size < N := by rw [hNe]; exact hKd.hash.lt
        have hof : ∀ x, Le N W0 x → Calls Tryd.prog 18 #[.slice ap qs.length cp] x fun e w' => e = .returned (.agg (byteCells (shaL b))) ∧ Below x.heap.size x w' := fun x hle => by
          have := of_any _ qs x (hKd.parts.le hle) (hgl.le hle hN2); rwa [hfl] at this
        have hsu : ∀ x, Le N W0 x → Calls Tryd.prog 28 #[.pointer (some ⟨w.heap.size, 0, none⟩)] x fun e w' => e = .returned (.agg (byteCells (shaL b))) ∧ Below x.heap.size x w' := fun x hle =>
          sum_any _ b x (hKd.hash.below hle.below hlt') (hgl.le hle hN2) (by have := H.out; omega)
        have hln : ∀ x, Le N W0 x → Calls Tryd.prog 29 #[.pointer (some ⟨w.heap.size, 0, none⟩)] x fun e w' => e = .returned (.int .i64 (b.length : Int)) ∧ w' = x := fun x hle =>
          len_any _ b x (hKd.hash.below hle.below hlt')
        have row1 := hKd.row
        have hBf := hKd.bw
        have hD := shaL_length b
        have q : ∀ w, (Op.equalIn 10000 25 (.agg (byteCells (shaL b))) (.agg (byteCells (shaL b)))).run Tryd.prog w = .ok true w := eq_same (shaL b) (shaL_length b)
        clear hKd hfl hb sd
        generalize shaL b = D at *
        generalize qs.length = ql at *
        generalize b.length = bl at *
        generalize hwz : w.heap.size = hb at *
        refine wp_region_owes (A := [0, 1, 0, 7, 15, 31, 63, 31, 255, 511, 1023, 2047, 4095, 2047, 10239, 32767, 65535, 131071, 262143, 262143, 1048575, 2097151, 4194303, 8388607, 16777215, 33554431, 67108863, 134217727, 268435455, 536870911, 1073741823]) (need := [[(8, none)], [(94, some 0)], [(12, none)], [(95, some 1), (96, some 2)], [(97, some 3)], [(7, none), (98, some 4)], [(99, some 5), (98, some 4)], [(12, none), (98, some 4)], [(100, some 6), (101, some 7), (98, some 4)], [(98, some 4), (102, some 8)], [(103, some 9)], [(7, none), (104, some 10)], [(105, some 11), (104, some 10)], [(0, none), (104, some 10)], [(107, some 13), (104, some 10)], [(106, some 12), (108, some 14), (104, some 10)], [(104, some 10), (109, some 15)], [(110, some 16)], [(15, none), (111, some 17)], [(12, none), (111, some 17)], [(112, some 18), (113, some 19), (111, some 17)], [(111, some 17), (114, some 20)], [(115, some 21)], [(16, none), (116, some 22)], [(117, some 23), (116, some 22)], [(118, some 24), (116, some 22)], [(116, some 22), (119, some 25)], [(120, some 26)], [(121, some 27)], [(121, some 27), (122, some 28)], [(123, some 29)]]) (cutsΦ D ap a0 ql cp bl c0 hb) N 124 (by kernel_rfl) (by kernel_rfl) (by kernel_rfl) (by kernel_rfl) (by kernel_rfl) (by kernel_rfl) rfl ?stable ?hop ?hend
        case stable =>
          intro i v p q hpq h
          unfold cutsΦ at h ⊢
          split at h <;> first | exact h | exact h
        case hop =>
          refine ⟨?_, ?_, ?_, ?_, ?_, ?_, ?_, ?_, ?_, ?_, ?_, ?_, ?_, ?_, ?_, ?_, ?_, ?_, ?_, ?_, ?_, ?_, ?_, ?_, ?_, ?_, ?_, ?_, ?_, ?_, ?_, trivial⟩
          · intro a w hle hE
            have h8 : a.tmps.getD 8 undef = .slice ap ql cp := hE (8, none) (by simp)
            rw [if_pos (wanted_plain rfl)]
            refine owe_value (v := .slice ap ql cp) ?_ (Le.refl _ _) rfl
            go_simp
          · intro a w hle hE
            have h94 : a.tmps.getD 94 undef = .slice ap ql cp := hE (94, some 0) (by simp)
            rw [if_pos (wanted_plain rfl)]
            refine owe_call (f := 18) (args := #[.slice ap ql cp]) (by go_simp) ?_
            refine (hof w hle).mono ?_
            rintro e w1 ⟨rfl, hb1⟩
            exact ⟨_, rfl, Le.of hb1 (Nat.le_trans hN hle.size), rfl⟩
          · intro a w hle hE
            have h12 : a.tmps.getD 12 undef = .pointer (some ⟨R, 0, none⟩) := hE (12, none) (by simp)
            rw [if_pos (wanted_plain rfl)]
            refine owe_value (v := .agg (byteCells D)) ?_ (Le.refl _ _) rfl
            have e1 : a.eval (.tmp 12) = _ := h12
            unfold execOp
            simp only [e1, load_dig w _ D hD (fun j _ => (hle.cells ⟨_, j, none⟩ row1.lt).trans (row1.cell j)), Sem.run_bind, Sem.run_pure, Result.andThen_ok]
          · intro a w hle hE
            have h95 : a.tmps.getD 95 undef = .agg (byteCells D) := hE (95, some 1) (by simp)
            have h96 : a.tmps.getD 96 undef = .agg (byteCells D) := hE (96, some 2) (by simp)
            rw [if_pos (wanted_plain rfl)]
            refine owe_value (v := .bool true) ?_ (Le.refl _ _) rfl
            go_simp
          · intro a w hle hE
            have h97 : a.tmps.getD 97 undef = .bool true := hE (97, some 3) (by simp)
            rw [if_pos (wanted_plain rfl)]
            refine owe_value (v := .bool true) ?_ (Le.refl _ _) rfl
            go_simp
          · intro a w hle hE
            have h7 : a.tmps.getD 7 undef = .pointer (some ⟨hb, 0, none⟩) := hE (7, none) (by simp)
            have h98 : a.tmps.getD 98 undef = .bool true := hE (98, some 4) (by simp)
            rw [if_pos (wanted_of (j := 4) (b := true) (d := 98) rfl rfl h98)]
            refine owe_value (v := .pointer (some ⟨hb, 0, none⟩)) ?_ (Le.refl _ _) rfl
            go_simp
          · intro a w hle hE
            have h99 : a.tmps.getD 99 undef = .pointer (some ⟨hb, 0, none⟩) := hE (99, some 5) (by simp)
            have h98 : a.tmps.getD 98 undef = .bool true := hE (98, some 4) (by simp)
            rw [if_pos (wanted_of (j := 4) (b := true) (d := 98) rfl rfl h98)]
            refine owe_call (f := 28) (args := #[.pointer (some ⟨hb, 0, none⟩)]) (by go_simp) ?_
            refine (hsu w hle).mono ?_
            rintro e w1 ⟨rfl, hb1⟩
            exact ⟨_, rfl, Le.of hb1 (Nat.le_trans hN hle.size), rfl⟩
          · intro a w hle hE
            have h12 : a.tmps.getD 12 undef = .pointer (some ⟨R, 0, none⟩) := hE (12, none) (by simp)
            have h98 : a.tmps.getD 98 undef = .bool true := hE (98, some 4) (by simp)
            rw [if_pos (wanted_of (j := 4) (b := true) (d := 98) rfl rfl h98)]
            refine owe_value (v := .agg (byteCells D)) ?_ (Le.refl _ _) rfl
            have e1 : a.eval (.tmp 12) = _ := h12
            unfold execOp
            simp only [e1, load_dig w _ D hD (fun j _ => (hle.cells ⟨_, j, none⟩ row1.lt).trans (row1.cell j)), Sem.run_bind, Sem.run_pure, Result.andThen_ok]
          · intro a w hle hE
            have h100 : a.tmps.getD 100 undef = .agg (byteCells D) := hE (100, some 6) (by simp)
            have h101 : a.tmps.getD 101 undef = .agg (byteCells D) := hE (101, some 7) (by simp)
            have h98 : a.tmps.getD 98 undef = .bool true := hE (98, some 4) (by simp)
            rw [if_pos (wanted_of (j := 4) (b := true) (d := 98) rfl rfl h98)]
            refine owe_value (v := .bool true) ?_ (Le.refl _ _) rfl
            go_simp
          · intro a w hle hE
            have h98 : a.tmps.getD 98 undef = .bool true := hE (98, some 4) (by simp)
            have h102 : a.tmps.getD 102 undef = .bool true := hE (102, some 8) (by simp)
            rw [if_pos (wanted_plain rfl)]
            refine owe_value (v := .bool true) ?_ (Le.refl _ _) rfl
            go_simp
          · intro a w hle hE
            have h103 : a.tmps.getD 103 undef = .bool true := hE (103, some 9) (by simp)
            rw [if_pos (wanted_plain rfl)]
            refine owe_value (v := .bool true) ?_ (Le.refl _ _) rfl
            go_simp
          · intro a w hle hE
            have h7 : a.tmps.getD 7 undef = .pointer (some ⟨hb, 0, none⟩) := hE (7, none) (by simp)
            have h104 : a.tmps.getD 104 undef = .bool true := hE (104, some 10) (by simp)
            rw [if_pos (wanted_of (j := 10) (b := true) (d := 104) rfl rfl h104)]
            refine owe_value (v := .pointer (some ⟨hb, 0, none⟩)) ?_ (Le.refl _ _) rfl
            go_simp
          · intro a w hle hE
            have h105 : a.tmps.getD 105 undef = .pointer (some ⟨hb, 0, none⟩) := hE (105, some 11) (by simp)
            have h104 : a.tmps.getD 104 undef = .bool true := hE (104, some 10) (by simp)
            rw [if_pos (wanted_of (j := 10) (b := true) (d := 104) rfl rfl h104)]
            refine owe_call (f := 29) (args := #[.pointer (some ⟨hb, 0, none⟩)]) (by go_simp) ?_
            refine (hln w hle).mono ?_
            rintro e w1 ⟨rfl, rfl⟩
            exact ⟨_, rfl, Le.refl _ _, rfl⟩
          · intro a w hle hE
            have h0 : a.tmps.getD 0 undef = .slice a0 bl c0 := hE (0, none) (by simp)
            have h104 : a.tmps.getD 104 undef = .bool true := hE (104, some 10) (by simp)
            rw [if_pos (wanted_of (j := 10) (b := true) (d := 104) rfl rfl h104)]
            refine owe_value (v := .slice a0 bl c0) ?_ (Le.refl _ _) rfl
            go_simp
          · intro a w hle hE
            have h107 : a.tmps.getD 107 undef = .slice a0 bl c0 := hE (107, some 13) (by simp)
            have h104 : a.tmps.getD 104 undef = .bool true := hE (104, some 10) (by simp)
            rw [if_pos (wanted_of (j := 10) (b := true) (d := 104) rfl rfl h104)]
            refine owe_value (v := .int .i64 bl) ?_ (Le.refl _ _) rfl
            go_simp
          · intro a w hle hE
            have h106 : a.tmps.getD 106 undef = .int .i64 bl := hE (106, some 12) (by simp)
            have h108 : a.tmps.getD 108 undef = .int .i64 bl := hE (108, some 14) (by simp)
            have h104 : a.tmps.getD 104 undef = .bool true := hE (104, some 10) (by simp)
            rw [if_pos (wanted_of (j := 10) (b := true) (d := 104) rfl rfl h104)]
            refine owe_value (v := .bool true) ?_ (Le.refl _ _) rfl
            go_simp
          · intro a w hle hE
            have h104 : a.tmps.getD 104 undef = .bool true := hE (104, some 10) (by simp)
            have h109 : a.tmps.getD 109 undef = .bool true := hE (109, some 15) (by simp)
            rw [if_pos (wanted_plain rfl)]
            refine owe_value (v := .bool true) ?_ (Le.refl _ _) rfl
            go_simp
          · intro a w hle hE
            have h110 : a.tmps.getD 110 undef = .bool true := hE (110, some 16) (by simp)
            rw [if_pos (wanted_plain rfl)]
            refine owe_value (v := .bool true) ?_ (Le.refl _ _) rfl
            go_simp
          · intro a w hle hE
            have h15 : a.tmps.getD 15 undef = .pointer (some ⟨R2, 0, none⟩) := hE (15, none) (by simp)
            have h111 : a.tmps.getD 111 undef = .bool true := hE (111, some 17) (by simp)
            rw [if_pos (wanted_of (j := 17) (b := true) (d := 111) rfl rfl h111)]
            refine owe_value (v := .agg (byteCells D)) ?_ (Le.refl _ _) rfl
            have e1 : a.eval (.tmp 15) = _ := h15
            unfold execOp
            simp only [e1, load_dig w _ D hD (fun j _ => (hle.cells ⟨_, j, none⟩ row2.lt).trans (row2.cell j)), Sem.run_bind, Sem.run_pure, Result.andThen_ok]
          · intro a w hle hE
            have h12 : a.tmps.getD 12 undef = .pointer (some ⟨R, 0, none⟩) := hE (12, none) (by simp)
            have h111 : a.tmps.getD 111 undef = .bool true := hE (111, some 17) (by simp)
            rw [if_pos (wanted_of (j := 17) (b := true) (d := 111) rfl rfl h111)]
            refine owe_value (v := .agg (byteCells D)) ?_ (Le.refl _ _) rfl
            have e1 : a.eval (.tmp 12) = _ := h12
            unfold execOp
            simp only [e1, load_dig w _ D hD (fun j _ => (hle.cells ⟨_, j, none⟩ row1.lt).trans (row1.cell j)), Sem.run_bind, Sem.run_pure, Result.andThen_ok]
          · intro a w hle hE
            have h112 : a.tmps.getD 112 undef = .agg (byteCells D) := hE (112, some 18) (by simp)
            have h113 : a.tmps.getD 113 undef = .agg (byteCells D) := hE (113, some 19) (by simp)
            have h111 : a.tmps.getD 111 undef = .bool true := hE (111, some 17) (by simp)
            rw [if_pos (wanted_of (j := 17) (b := true) (d := 111) rfl rfl h111)]
            refine owe_value (v := .bool true) ?_ (Le.refl _ _) rfl
            go_simp
          · intro a w hle hE
            have h111 : a.tmps.getD 111 undef = .bool true := hE (111, some 17) (by simp)
            have h114 : a.tmps.getD 114 undef = .bool true := hE (114, some 20) (by simp)
            rw [if_pos (wanted_plain rfl)]
            refine owe_value (v := .bool true) ?_ (Le.refl _ _) rfl
            go_simp
          · intro a w hle hE
            have h115 : a.tmps.getD 115 undef = .bool true := hE (115, some 21) (by simp)
            rw [if_pos (wanted_plain rfl)]
            refine owe_value (v := .bool true) ?_ (Le.refl _ _) rfl
            go_simp
          · intro a w hle hE
            have h16 : a.tmps.getD 16 undef = .int .i64 0 := hE (16, none) (by simp)
            have h116 : a.tmps.getD 116 undef = .bool true := hE (116, some 22) (by simp)
            rw [if_pos (wanted_of (j := 22) (b := true) (d := 116) rfl rfl h116)]
            refine owe_value (v := .int .i64 0) ?_ (Le.refl _ _) rfl
            go_simp
          · intro a w hle hE
            have h117 : a.tmps.getD 117 undef = .int .i64 0 := hE (117, some 23) (by simp)
            have h116 : a.tmps.getD 116 undef = .bool true := hE (116, some 22) (by simp)
            rw [if_pos (wanted_of (j := 22) (b := true) (d := 116) rfl rfl h116)]
            refine owe_call (f := 23) (args := #[.int .i64 0]) (by go_simp) ?_
            refine (num_any _ w).mono ?_
            rintro e w1 ⟨rfl, rfl⟩
            exact ⟨_, rfl, Le.refl _ _, rfl⟩
          · intro a w hle hE
            have h118 : a.tmps.getD 118 undef = .int .i64 0 := hE (118, some 24) (by simp)
            have h116 : a.tmps.getD 116 undef = .bool true := hE (116, some 22) (by simp)
            rw [if_pos (wanted_of (j := 22) (b := true) (d := 116) rfl rfl h116)]
            refine owe_value (v := .bool true) ?_ (Le.refl _ _) rfl
            go_simp
          · intro a w hle hE
            have h116 : a.tmps.getD 116 undef = .bool true := hE (116, some 22) (by simp)
            have h119 : a.tmps.getD 119 undef = .bool true := hE (119, some 25) (by simp)
            rw [if_pos (wanted_plain rfl)]
            refine owe_value (v := .bool true) ?_ (Le.refl _ _) rfl
            go_simp
          · intro a w hle hE
            have h120 : a.tmps.getD 120 undef = .bool true := hE (120, some 26) (by simp)
            rw [if_pos (wanted_plain rfl)]
            refine owe_value (v := .bool true) ?_ (Le.refl _ _) rfl
            go_simp
          · intro a w hle hE
            have h121 : a.tmps.getD 121 undef = .bool true := hE (121, some 27) (by simp)
            rw [if_pos (wanted_of (j := 27) (b := true) (d := 121) rfl rfl h121)]
            refine owe_call (f := 15) (args := #[]) (by go_simp) ?_
            refine (works_any w (hgl.le hle hN2)).mono ?_
            rintro e w1 ⟨rfl, hb1⟩
            exact ⟨_, rfl, Le.of hb1 (Nat.le_trans hN hle.size), rfl⟩
          · intro a w hle hE
            have h121 : a.tmps.getD 121 undef = .bool true := hE (121, some 27) (by simp)
            have h122 : a.tmps.getD 122 undef = .bool true := hE (122, some 28) (by simp)
            rw [if_pos (wanted_plain rfl)]
            refine owe_value (v := .bool true) ?_ (Le.refl _ _) rfl
            go_simp
          · intro a w hle hE
            have h123 : a.tmps.getD 123 undef = .bool true := hE (123, some 29) (by simp)
            rw [if_pos (wanted_plain rfl)]
            refine owe_value (v := .bool true) ?_ (Le.refl _ _) rfl
            go_simp
        case hend =>
          intro a w' hle hdef hsz hall hold
          have h0 : a.tmps.getD 6 undef = .bool true := hall 30 _ 6 rfl rfl
          go_wp2_with fail
          refine bodyPost_ret (results_tmp rfl _ _ _) hdef ?_
          exact ⟨by rw [h0], hBf.trans (hle.below.mono (by rw [hNe, ← hwz]; exact hBf.size))⟩
      · have hKa := hK9
        clear hK9 hr9
        generalize W9 = Wa at *
        have hT := parse_text (shaL b) (shaL_length b)
        go_wp2_with (refine wpList_load_row rfl 25 _ rfl R rfl 25 (byteCells (shaL b)) (0, 0) _ hKa.row Tryd.underlying25 rfl (by rw [sd]; kernel_rfl) ?_)
        refine (text_any (shaL b) (shaL_length b) Wa).mono ?_
        rintro e Wb ⟨rfl, hBb⟩
        have hKb := hKa.below hBb
        clear hKa hBb
        go_wp2_with fail
        refine (parse_any (textL (shaL b)) Wb).mono ?_
        rw [hT.1, hT.2]
        rintro e Wc ⟨rfl, hBc⟩
        have hKc := hKb.below hBc
        clear hKb hBc hT
        have hnc := has_new Wc (zeroCells 32) 25 Wc.heap.size rfl
        go_wp2_with (refine wpList_store_row rfl 25 _ _ rfl Wc.heap.size (byteCells (shaL b)) rfl rfl 25 _ hnc (by rw [sd]; kernel_rfl) (by rw [sd, zeroCells_size]) (byteCells_one _) ?_)
        refine named (p := Code.wp _ _ _ _) ?_
        intro W0 hW0
        have hBd : Below Wc.heap.size Wc W0 := by rw [hW0]; exact ((Below.refl _ _).alloc (Nat.le_refl _) _).trans ⟨rfl, rfl, rfl, by simp, fun j hj => setRow_other _ _ _ _ (by omega)⟩
        have row2 : Has W0 Wc.heap.size (byteCells (shaL b)) 25 := by rw [hW0]; exact setRow_heap _ _ _ _ _ _ hnc
        have hKd := hKc.below hBd
        clear hW0 hnc hBd hKc
        generalize Wc.heap.size = R2 at *
        obtain ⟨N, hNe⟩ : ∃ N, N = W0.heap.size := ⟨_, rfl⟩
        have hN : N ≤ W0.heap.size := by omega
        have hN2 : 2 ≤ N := by rw [hNe]; have := hKd.bw.size; omega
        have hgl := hg0.below hKd.bw hgs
        have hlt' : w.heap.size < N := by rw [hNe]; exact hKd.hash.lt
        have hof : ∀ x, Le N W0 x → Calls Tryd.prog 18 #[.slice ap qs.length cp] x fun e w' => e = .returned (.agg (byteCells (shaL b))) ∧ Below x.heap.size x w' := fun x hle => by
          have := of_any _ qs x (hKd.parts.le hle) (hgl.le hle hN2); rwa [hfl] at this
        have hsu : ∀ x, Le N W0 x → Calls Tryd.prog 28 #[.pointer (some ⟨w.heap.size, 0, none⟩)] x fun e w' => e = .returned (.agg (byteCells (shaL b))) ∧ Below x.heap.size x w' := fun x hle =>
          sum_any _ b x (hKd.hash.below hle.below hlt') (hgl.le hle hN2) (by have := H.out; omega)
        have hln : ∀ x, Le N W0 x → Calls Tryd.prog 29 #[.pointer (some ⟨w.heap.size, 0, none⟩)] x fun e w' => e = .returned (.int .i64 (b.length : Int)) ∧ w' = x := fun x hle =>
          len_any _ b x (hKd.hash.below hle.below hlt')
        have row1 := hKd.row
        have hBf := hKd.bw
        have hD := shaL_length b
        have q : ∀ w, (Op.equalIn 10000 25 (.agg (byteCells (shaL b))) (.agg (byteCells (shaL b)))).run Tryd.prog w = .ok true w := eq_same (shaL b) (shaL_length b)
        clear hKd hfl hb sd
        generalize shaL b = D at *
        generalize qs.length = ql at *
        generalize b.length = bl at *
        generalize hwz : w.heap.size = hb at *
        refine wp_region_owes (A := [0, 1, 0, 7, 15, 31, 63, 31, 255, 511, 1023, 2047, 4095, 2047, 10239, 32767, 65535, 131071, 262143, 262143, 1048575, 2097151, 4194303, 8388607, 16777215, 33554431, 67108863, 134217727, 268435455, 536870911, 1073741823]) (need := [[(8, none)], [(94, some 0)], [(12, none)], [(95, some 1), (96, some 2)], [(97, some 3)], [(7, none), (98, some 4)], [(99, some 5), (98, some 4)], [(12, none), (98, some 4)], [(100, some 6), (101, some 7), (98, some 4)], [(98, some 4), (102, some 8)], [(103, some 9)], [(7, none), (104, some 10)], [(105, some 11), (104, some 10)], [(0, none), (104, some 10)], [(107, some 13), (104, some 10)], [(106, some 12), (108, some 14), (104, some 10)], [(104, some 10), (109, some 15)], [(110, some 16)], [(15, none), (111, some 17)], [(12, none), (111, some 17)], [(112, some 18), (113, some 19), (111, some 17)], [(111, some 17), (114, some 20)], [(115, some 21)], [(16, none), (116, some 22)], [(117, some 23), (116, some 22)], [(118, some 24), (116, some 22)], [(116, some 22), (119, some 25)], [(120, some 26)], [(121, some 27)], [(121, some 27), (122, some 28)], [(123, some 29)]]) (cutsΦ D ap a0 ql cp bl c0 hb) N 124 (by kernel_rfl) (by kernel_rfl) (by kernel_rfl) (by kernel_rfl) (by kernel_rfl) (by kernel_rfl) rfl ?stable ?hop ?hend
        case stable =>
          intro i v p q hpq h
          unfold cutsΦ at h ⊢
          split at h <;> first | exact h | exact h
        case hop =>
          refine ⟨?_, ?_, ?_, ?_, ?_, ?_, ?_, ?_, ?_, ?_, ?_, ?_, ?_, ?_, ?_, ?_, ?_, ?_, ?_, ?_, ?_, ?_, ?_, ?_, ?_, ?_, ?_, ?_, ?_, ?_, ?_, trivial⟩
          · intro a w hle hE
            have h8 : a.tmps.getD 8 undef = .slice ap ql cp := hE (8, none) (by simp)
            rw [if_pos (wanted_plain rfl)]
            refine owe_value (v := .slice ap ql cp) ?_ (Le.refl _ _) rfl
            go_simp
          · intro a w hle hE
            have h94 : a.tmps.getD 94 undef = .slice ap ql cp := hE (94, some 0) (by simp)
            rw [if_pos (wanted_plain rfl)]
            refine owe_call (f := 18) (args := #[.slice ap ql cp]) (by go_simp) ?_
            refine (hof w hle).mono ?_
            rintro e w1 ⟨rfl, hb1⟩
            exact ⟨_, rfl, Le.of hb1 (Nat.le_trans hN hle.size), rfl⟩
          · intro a w hle hE
            have h12 : a.tmps.getD 12 undef = .pointer (some ⟨R, 0, none⟩) := hE (12, none) (by simp)
            rw [if_pos (wanted_plain rfl)]
            refine owe_value (v := .agg (byteCells D)) ?_ (Le.refl _ _) rfl
            have e1 : a.eval (.tmp 12) = _ := h12
            unfold execOp
            simp only [e1, load_dig w _ D hD (fun j _ => (hle.cells ⟨_, j, none⟩ row1.lt).trans (row1.cell j)), Sem.run_bind, Sem.run_pure, Result.andThen_ok]
          · intro a w hle hE
            have h95 : a.tmps.getD 95 undef = .agg (byteCells D) := hE (95, some 1) (by simp)
            have h96 : a.tmps.getD 96 undef = .agg (byteCells D) := hE (96, some 2) (by simp)
            rw [if_pos (wanted_plain rfl)]
            refine owe_value (v := .bool true) ?_ (Le.refl _ _) rfl
            go_simp
          · intro a w hle hE
            have h97 : a.tmps.getD 97 undef = .bool true := hE (97, some 3) (by simp)
            rw [if_pos (wanted_plain rfl)]
            refine owe_value (v := .bool true) ?_ (Le.refl _ _) rfl
            go_simp
          · intro a w hle hE
            have h7 : a.tmps.getD 7 undef = .pointer (some ⟨hb, 0, none⟩) := hE (7, none) (by simp)
            have h98 : a.tmps.getD 98 undef = .bool true := hE (98, some 4) (by simp)
            rw [if_pos (wanted_of (j := 4) (b := true) (d := 98) rfl rfl h98)]
            refine owe_value (v := .pointer (some ⟨hb, 0, none⟩)) ?_ (Le.refl _ _) rfl
            go_simp
          · intro a w hle hE
            have h99 : a.tmps.getD 99 undef = .pointer (some ⟨hb, 0, none⟩) := hE (99, some 5) (by simp)
            have h98 : a.tmps.getD 98 undef = .bool true := hE (98, some 4) (by simp)
            rw [if_pos (wanted_of (j := 4) (b := true) (d := 98) rfl rfl h98)]
            refine owe_call (f := 28) (args := #[.pointer (some ⟨hb, 0, none⟩)]) (by go_simp) ?_
            refine (hsu w hle).mono ?_
            rintro e w1 ⟨rfl, hb1⟩
            exact ⟨_, rfl, Le.of hb1 (Nat.le_trans hN hle.size), rfl⟩
          · intro a w hle hE
            have h12 : a.tmps.getD 12 undef = .pointer (some ⟨R, 0, none⟩) := hE (12, none) (by simp)
            have h98 : a.tmps.getD 98 undef = .bool true := hE (98, some 4) (by simp)
            rw [if_pos (wanted_of (j := 4) (b := true) (d := 98) rfl rfl h98)]
            refine owe_value (v := .agg (byteCells D)) ?_ (Le.refl _ _) rfl
            have e1 : a.eval (.tmp 12) = _ := h12
            unfold execOp
            simp only [e1, load_dig w _ D hD (fun j _ => (hle.cells ⟨_, j, none⟩ row1.lt).trans (row1.cell j)), Sem.run_bind, Sem.run_pure, Result.andThen_ok]
          · intro a w hle hE
            have h100 : a.tmps.getD 100 undef = .agg (byteCells D) := hE (100, some 6) (by simp)
            have h101 : a.tmps.getD 101 undef = .agg (byteCells D) := hE (101, some 7) (by simp)
            have h98 : a.tmps.getD 98 undef = .bool true := hE (98, some 4) (by simp)
            rw [if_pos (wanted_of (j := 4) (b := true) (d := 98) rfl rfl h98)]
            refine owe_value (v := .bool true) ?_ (Le.refl _ _) rfl
            go_simp
          · intro a w hle hE
            have h98 : a.tmps.getD 98 undef = .bool true := hE (98, some 4) (by simp)
            have h102 : a.tmps.getD 102 undef = .bool true := hE (102, some 8) (by simp)
            rw [if_pos (wanted_plain rfl)]
            refine owe_value (v := .bool true) ?_ (Le.refl _ _) rfl
            go_simp
          · intro a w hle hE
            have h103 : a.tmps.getD 103 undef = .bool true := hE (103, some 9) (by simp)
            rw [if_pos (wanted_plain rfl)]
            refine owe_value (v := .bool true) ?_ (Le.refl _ _) rfl
            go_simp
          · intro a w hle hE
            have h7 : a.tmps.getD 7 undef = .pointer (some ⟨hb, 0, none⟩) := hE (7, none) (by simp)
            have h104 : a.tmps.getD 104 undef = .bool true := hE (104, some 10) (by simp)
            rw [if_pos (wanted_of (j := 10) (b := true) (d := 104) rfl rfl h104)]
            refine owe_value (v := .pointer (some ⟨hb, 0, none⟩)) ?_ (Le.refl _ _) rfl
            go_simp
          · intro a w hle hE
            have h105 : a.tmps.getD 105 undef = .pointer (some ⟨hb, 0, none⟩) := hE (105, some 11) (by simp)
            have h104 : a.tmps.getD 104 undef = .bool true := hE (104, some 10) (by simp)
            rw [if_pos (wanted_of (j := 10) (b := true) (d := 104) rfl rfl h104)]
            refine owe_call (f := 29) (args := #[.pointer (some ⟨hb, 0, none⟩)]) (by go_simp) ?_
            refine (hln w hle).mono ?_
            rintro e w1 ⟨rfl, rfl⟩
            exact ⟨_, rfl, Le.refl _ _, rfl⟩
          · intro a w hle hE
            have h0 : a.tmps.getD 0 undef = .slice a0 bl c0 := hE (0, none) (by simp)
            have h104 : a.tmps.getD 104 undef = .bool true := hE (104, some 10) (by simp)
            rw [if_pos (wanted_of (j := 10) (b := true) (d := 104) rfl rfl h104)]
            refine owe_value (v := .slice a0 bl c0) ?_ (Le.refl _ _) rfl
            go_simp
          · intro a w hle hE
            have h107 : a.tmps.getD 107 undef = .slice a0 bl c0 := hE (107, some 13) (by simp)
            have h104 : a.tmps.getD 104 undef = .bool true := hE (104, some 10) (by simp)
            rw [if_pos (wanted_of (j := 10) (b := true) (d := 104) rfl rfl h104)]
            refine owe_value (v := .int .i64 bl) ?_ (Le.refl _ _) rfl
            go_simp
          · intro a w hle hE
            have h106 : a.tmps.getD 106 undef = .int .i64 bl := hE (106, some 12) (by simp)
            have h108 : a.tmps.getD 108 undef = .int .i64 bl := hE (108, some 14) (by simp)
            have h104 : a.tmps.getD 104 undef = .bool true := hE (104, some 10) (by simp)
            rw [if_pos (wanted_of (j := 10) (b := true) (d := 104) rfl rfl h104)]
            refine owe_value (v := .bool true) ?_ (Le.refl _ _) rfl
            go_simp
          · intro a w hle hE
            have h104 : a.tmps.getD 104 undef = .bool true := hE (104, some 10) (by simp)
            have h109 : a.tmps.getD 109 undef = .bool true := hE (109, some 15) (by simp)
            rw [if_pos (wanted_plain rfl)]
            refine owe_value (v := .bool true) ?_ (Le.refl _ _) rfl
            go_simp
          · intro a w hle hE
            have h110 : a.tmps.getD 110 undef = .bool true := hE (110, some 16) (by simp)
            rw [if_pos (wanted_plain rfl)]
            refine owe_value (v := .bool true) ?_ (Le.refl _ _) rfl
            go_simp
          · intro a w hle hE
            have h15 : a.tmps.getD 15 undef = .pointer (some ⟨R2, 0, none⟩) := hE (15, none) (by simp)
            have h111 : a.tmps.getD 111 undef = .bool true := hE (111, some 17) (by simp)
            rw [if_pos (wanted_of (j := 17) (b := true) (d := 111) rfl rfl h111)]
            refine owe_value (v := .agg (byteCells D)) ?_ (Le.refl _ _) rfl
            have e1 : a.eval (.tmp 15) = _ := h15
            unfold execOp
            simp only [e1, load_dig w _ D hD (fun j _ => (hle.cells ⟨_, j, none⟩ row2.lt).trans (row2.cell j)), Sem.run_bind, Sem.run_pure, Result.andThen_ok]
          · intro a w hle hE
            have h12 : a.tmps.getD 12 undef = .pointer (some ⟨R, 0, none⟩) := hE (12, none) (by simp)
            have h111 : a.tmps.getD 111 undef = .bool true := hE (111, some 17) (by simp)
            rw [if_pos (wanted_of (j := 17) (b := true) (d := 111) rfl rfl h111)]
            refine owe_value (v := .agg (byteCells D)) ?_ (Le.refl _ _) rfl
            have e1 : a.eval (.tmp 12) = _ := h12
            unfold execOp
            simp only [e1, load_dig w _ D hD (fun j _ => (hle.cells ⟨_, j, none⟩ row1.lt).trans (row1.cell j)), Sem.run_bind, Sem.run_pure, Result.andThen_ok]
          · intro a w hle hE
            have h112 : a.tmps.getD 112 undef = .agg (byteCells D) := hE (112, some 18) (by simp)
            have h113 : a.tmps.getD 113 undef = .agg (byteCells D) := hE (113, some 19) (by simp)
            have h111 : a.tmps.getD 111 undef = .bool true := hE (111, some 17) (by simp)
            rw [if_pos (wanted_of (j := 17) (b := true) (d := 111) rfl rfl h111)]
            refine owe_value (v := .bool true) ?_ (Le.refl _ _) rfl
            go_simp
          · intro a w hle hE
            have h111 : a.tmps.getD 111 undef = .bool true := hE (111, some 17) (by simp)
            have h114 : a.tmps.getD 114 undef = .bool true := hE (114, some 20) (by simp)
            rw [if_pos (wanted_plain rfl)]
            refine owe_value (v := .bool true) ?_ (Le.refl _ _) rfl
            go_simp
          · intro a w hle hE
            have h115 : a.tmps.getD 115 undef = .bool true := hE (115, some 21) (by simp)
            rw [if_pos (wanted_plain rfl)]
            refine owe_value (v := .bool true) ?_ (Le.refl _ _) rfl
            go_simp
          · intro a w hle hE
            have h16 : a.tmps.getD 16 undef = .int .i64 0 := hE (16, none) (by simp)
            have h116 : a.tmps.getD 116 undef = .bool true := hE (116, some 22) (by simp)
            rw [if_pos (wanted_of (j := 22) (b := true) (d := 116) rfl rfl h116)]
            refine owe_value (v := .int .i64 0) ?_ (Le.refl _ _) rfl
            go_simp
          · intro a w hle hE
            have h117 : a.tmps.getD 117 undef = .int .i64 0 := hE (117, some 23) (by simp)
            have h116 : a.tmps.getD 116 undef = .bool true := hE (116, some 22) (by simp)
            rw [if_pos (wanted_of (j := 22) (b := true) (d := 116) rfl rfl h116)]
            refine owe_call (f := 23) (args := #[.int .i64 0]) (by go_simp) ?_
            refine (num_any _ w).mono ?_
            rintro e w1 ⟨rfl, rfl⟩
            exact ⟨_, rfl, Le.refl _ _, rfl⟩
          · intro a w hle hE
            have h118 : a.tmps.getD 118 undef = .int .i64 0 := hE (118, some 24) (by simp)
            have h116 : a.tmps.getD 116 undef = .bool true := hE (116, some 22) (by simp)
            rw [if_pos (wanted_of (j := 22) (b := true) (d := 116) rfl rfl h116)]
            refine owe_value (v := .bool true) ?_ (Le.refl _ _) rfl
            go_simp
          · intro a w hle hE
            have h116 : a.tmps.getD 116 undef = .bool true := hE (116, some 22) (by simp)
            have h119 : a.tmps.getD 119 undef = .bool true := hE (119, some 25) (by simp)
            rw [if_pos (wanted_plain rfl)]
            refine owe_value (v := .bool true) ?_ (Le.refl _ _) rfl
            go_simp
          · intro a w hle hE
            have h120 : a.tmps.getD 120 undef = .bool true := hE (120, some 26) (by simp)
            rw [if_pos (wanted_plain rfl)]
            refine owe_value (v := .bool true) ?_ (Le.refl _ _) rfl
            go_simp
          · intro a w hle hE
            have h121 : a.tmps.getD 121 undef = .bool true := hE (121, some 27) (by simp)
            rw [if_pos (wanted_of (j := 27) (b := true) (d := 121) rfl rfl h121)]
            refine owe_call (f := 15) (args := #[]) (by go_simp) ?_
            refine (works_any w (hgl.le hle hN2)).mono ?_
            rintro e w1 ⟨rfl, hb1⟩
            exact ⟨_, rfl, Le.of hb1 (Nat.le_trans hN hle.size), rfl⟩
          · intro a w hle hE
            have h121 : a.tmps.getD 121 undef = .bool true := hE (121, some 27) (by simp)
            have h122 : a.tmps.getD 122 undef = .bool true := hE (122, some 28) (by simp)
            rw [if_pos (wanted_plain rfl)]
            refine owe_value (v := .bool true) ?_ (Le.refl _ _) rfl
            go_simp
          · intro a w hle hE
            have h123 : a.tmps.getD 123 undef = .bool true := hE (123, some 29) (by simp)
            rw [if_pos (wanted_plain rfl)]
            refine owe_value (v := .bool true) ?_ (Le.refl _ _) rfl
            go_simp
        case hend =>
          intro a w' hle hdef hsz hall hold
          have h0 : a.tmps.getD 6 undef = .bool true := hall 30 _ 6 rfl rfl
          go_wp2_with fail
          refine bodyPost_ret (results_tmp rfl _ _ _) hdef ?_
          exact ⟨by rw [h0], hBf.trans (hle.below.mono (by rw [hNe, ← hwz]; exact hBf.size))⟩
end Go.Proofs.YtkcngkkjlnadiaaDoor
