/- WireBack: the law's walk. -/
import Derived.Test.YtgoflpfafkmmgaaV1
namespace Go.Proofs.Ytgoflpfafkmmgaa
open Go.RowKit

/-- How the law stands behind k calls. -/
structure Dn (xs : List AddD) (w : World) (p : Nat) (wr : World) (k : Nat) (v : Value) (bs : List UInt8) (dv : Value) (ys : List (AddD × Value)) : Prop where
  kle : k ≤ xs.length
  wn : WrN p w wr p v bs
  row : Row wr p dv ys
  good : ∀ y ∈ ys, Good w y
  bse : bs = (ys.map oL).flatten
  len : bs.length ≤ 2 * tot xs k
  few : ys.length ≤ k
theorem tot_mono (xs : List AddD) (k : Nat) (x : AddD) (h : xs[k]? = some x) : tot xs k ≤ tot xs (k + 1) := by rw [tot_succ xs k x h]; omega
theorem tot_ge (xs : List AddD) : ∀ k, k ≤ xs.length → 30 * k ≤ tot xs k
  | 0, _ => by simp
  | k + 1, h => by
    have hx : xs[k]? = some xs[k] := List.getElem?_eq_getElem (by omega)
    rw [tot_succ xs k _ hx]
    have := tot_ge xs k (by omega)
    unfold wt
    omega
theorem Dn.grow {xs : List AddD} {w wr w' : World} {p k : Nat} {v dv : Value} {bs : List UInt8} {ys : List (AddD × Value)} (h : Dn xs w p wr k v bs dv ys) (hB : Below wr.heap.size wr w') : Dn xs w p w' k v bs dv ys :=
  ⟨h.kle, h.wn.grow hB, h.row.fr (S := fun _ => False) (Fr.of_below hB) (fun _ _ h => h), h.good, h.bse, h.len, h.few⟩
theorem Dn.skip {xs : List AddD} {w wr : World} {p k : Nat} {v dv : Value} {bs : List UInt8} {ys : List (AddD × Value)} (h : Dn xs w p wr k v bs dv ys) (hk : k < xs.length) : Dn xs w p wr (k + 1) v bs dv ys :=
  ⟨hk, h.wn, h.row, h.good, h.bse, Nat.le_trans h.len (by have := tot_mono xs k _ (List.getElem?_eq_getElem hk); omega), by have := h.few; omega⟩
theorem Dn.laid {xs : List AddD} {w wr w3 : World} {p k : Nat} {v v3 dv : Value} {bs d : List UInt8} {ys : List (AddD × Value)} (h : Dn xs w p wr k v bs dv ys) (hW : Wr w3 p v3 (bs ++ d)) (hF : Fr (WS p v) wr w3) (hL : Loc wr v v3) :
    WrN p w w3 p v3 (bs ++ d) ∧ Row w3 p dv ys := ⟨h.wn.step hW hF hL, h.row.fr hF (h.row.notWS h.wn.wr)⟩
theorem Dn.none {xs : List AddD} {w wr w3 : World} {p k : Nat} {v v3 dv : Value} {bs : List UInt8} {ys : List (AddD × Value)} (h : Dn xs w p wr k v bs dv ys) (hk : k < xs.length) (hW : Wr w3 p v3 (bs ++ [])) (hF : Fr (WS p v) wr w3) (hL : Loc wr v v3) : Dn xs w p w3 (k + 1) v3 bs dv ys := by
  obtain ⟨h1, h2⟩ := h.laid hW hF hL
  rw [List.append_nil] at h1
  exact Dn.skip ⟨h.kle, h1, h2, h.good, h.bse, h.len, h.few⟩ hk
theorem Dn.more {xs : List AddD} {w wr w3 w4 : World} {p k : Nat} {v v3 dv dv4 sv : Value} {bs d : List UInt8} {ys : List (AddD × Value)} {x : AddD} (h : Dn xs w p wr k v bs dv ys) (hx : xs[k]? = some x) (h3 : WrN p w w3 p v3 (bs ++ d)) (hr : Row w3 p dv ys)
    (hr4 : Row w4 p dv4 (ys ++ [(x, sv)])) (hg : w3.grownBy w4 dv.ownBlock) (hgd : Good w (x, sv)) (hd : oL (x, sv) = d) (hl : (bs ++ d).length ≤ 2 * tot xs (k + 1)) : Dn xs w p w4 (k + 1) v3 (bs ++ d) dv4 (ys ++ [(x, sv)]) := by
  have hF : Fr (fun i => dv.ownBlock = some i) w3 w4 := grown_fr hg
  refine ⟨by have := (List.getElem?_eq_some_iff.1 hx).1; omega, ⟨h3.wr.fr hF (fun i hi => hr.notWS h3.wr i hi), Fr.below h3.below hF h3.le (fun i hi e => by have := (hr.kind e).1; omega), h3.hi, Nat.le_trans h3.le hF.size⟩, hr4, fun y hy => ?_, ?_, hl, by have := h.few; simp; omega⟩
  · rcases List.mem_append.1 hy with hy | hy
    · exact h.good y hy
    · rw [List.mem_singleton] at hy; subst hy; exact hgd
  · rw [List.map_append, List.flatten_append, ← h.bse, List.map_singleton, hd]
    simp
theorem Row.notRd {w : World} {N r at_ fl : Nat} {v lv : Value} {rest : List UInt8} {ys : List (AddD × Value)} (h : Row w N v ys) (hR : Rd w r lv rest at_ fl) : ∀ i, v.ownBlock = some i → ¬ i = r := by
  rintro i hi rfl
  obtain ⟨_, _, c, fz, hc⟩ := h.kind hi
  have := hR.has
  unfold Has at this
  rw [hc] at this
  simp at this
/-- How the law stands behind j calls taken. -/
structure Bk (w : World) (p r : Nat) (dv : Value) (ys : List (AddD × Value)) (wr : World) (j : Nat) (lv : Value) (at_ : Nat) : Prop where
  jle : j ≤ ys.length
  rd : Rd wr r lv ((ys.drop j).map oL).flatten at_ 0
  le : at_ + ((ys.drop j).map oL).flatten.length ≤ 8000
  row : Row wr p dv ys
  below : Below p w wr
  hi : p ≤ r
theorem Bk.step {w wr w' : World} {p r j at_ : Nat} {dv lv lv' : Value} {ys : List (AddD × Value)} (h : Bk w p r dv ys wr j lv at_) (hj : j < ys.length) {y : AddD × Value} (hd : ((ys.drop j).map oL).flatten = oL y ++ ((ys.drop (j + 1)).map oL).flatten)
    (hR : Rd w' r lv' ((ys.drop (j + 1)).map oL).flatten (at_ + (oL y).length) 0) (hE : Ex r wr w') : Bk w p r dv ys w' (j + 1) lv' (at_ + (oL y).length) := by
  have hl := h.le
  rw [hd, List.length_append] at hl
  exact ⟨hj, hR, by omega, h.row.fr (Fr.of_ex hE) (h.row.notRd h.rd), Below.ex h.below (by have := h.rd.lt; have := h.hi; omega) hE h.hi, h.hi⟩
set_option maxRecDepth 100000 in
set_option maxHeartbeats 8000000 in
theorem back_few (v : Value) (xs : List AddD) (a : Option Addr) (cap b o : Nat) (S : Nat → Value) (bv : Value) (bb : List UInt8) (tv : Value) (ts : List (Int × Int)) (ta : Option Addr) (tcap tb to_ : Nat) (w : World) (hA : Adds w v xs a cap b o S) (hf : fewB xs = true) (hB : In w bv bb) (hT : Takes w tv ts ta tcap tb to_) (hb : bb.length ≤ 2000) (ht : ts.length ≤ 60) :
    Calls Try.prog 9 #[v, bv, tv] w fun e w' => e = .returned (.bool true) ∧ Below w.heap.size w w' := by
  have hfew := few_any v xs a cap b o S w hA
  rw [hf] at hfew
  have htot : tot xs xs.length ≤ 4000 := by unfold fewB at hf; simpa using hf
  have hlen := hA.len
  unfold maxLen at hlen
  obtain rfl := hA.val
  obtain rfl := hT.val
  obtain ⟨ba, bc0, rfl⟩ := hB.slice
  have i0 : ¬ (2000 : Int) < bb.length := by omega
  have i00 : ¬ (60 : Int) < ts.length := by omega
  have HA : Hid (Adds w (.slice a xs.length cap) xs a cap b o S) := hA
  have HB : Hid (In w (.slice ba bb.length bc0) bb) := hB
  have HTk : Hid (Takes w (.slice ta ts.length tcap) ts ta tcap tb to_) := hT
  have HT : Hid (tot xs xs.length ≤ 4000) := htot
  have Hb2 : Hid (bb.length ≤ 2000) := hb
  clear hA hf htot hB hT hb
  go_enter Try.func9, Try.ntmps9
  go_wp2_with (first | (go_at_call 10; refine hfew.mono ?_; rintro e w' ⟨rfl, hw⟩; obtain rfl := hw.symm; clear hw) | fail)
  refine (wnew_any w).mono ?_
  rintro e w1 ⟨rfl, hBn, hW⟩
  have h1 := WrN.new w w1 hBn hW
  clear hBn hW hfew
  generalize hNw : w.heap.size = p at h1
  have HN : Hid (w.heap.size = p) := hNw
  clear hNw
  go_wp2_with fail
  go_loopw [8, 9] (fun dv i wr => ∃ (k : Nat) (v : Value) (bs : List UInt8) (ys : List (AddD × Value)), i = .int .i64 k ∧ Dn xs w p wr k v bs dv ys) (fun _ i _ => xs.length - (intOf i).toNat)
  case atStart => exact ⟨0, _, [], [], rfl, by omega, h1, World.ownsRow_nil _ _ _ _, by simp, rfl, by simp, by simp⟩
  case round =>
    clear h1
    obtain ⟨k, v, bs, ys, rfl, hD⟩ := hrel
    obtain ⟨da, dc, rfl⟩ := hD.row.form
    have hk := hD.kle
    by_cases hkl : k < xs.length
    · have i1 : (k : Int) < xs.length := by omega
      have hx : xs[k]? = some xs[k] := List.getElem?_eq_getElem hkl
      obtain rfl := HA.out.at_ (by intro e; simp [e] at hkl)
      have hblt : b < p := by rw [← HN.out]; exact block_of_cell (HA.out.c0 k _ hx)
      have c0 := (hD.wn.below.cell (p := ⟨b, o + k * 3, none⟩) hblt).trans (HA.out.c0 k _ hx)
      have c1 := (hD.wn.below.cell (p := ⟨b, o + k * 3 + 1, none⟩) hblt).trans (HA.out.c1 k _ hx)
      have c2 := (hD.wn.below.cell (p := ⟨b, o + k * 3 + 2, none⟩) hblt).trans (HA.out.c2 k _ hx)
      have hin := HA.out.by_ k _ hx
      have hwf := HA.out.wf xs[k] (List.getElem_mem _)
      have Ht := tot_succ xs k _ hx
      have htk := tot_le xs (k + 1)
      have HX : Hid (xs[k]? = some xs[k]) := hx
      generalize xs[k] = x at *
      have HK : Hid (k < xs.length) := hkl
      by_cases hw0 : x.what < 0
      · have HD : Hid (Dn xs w p wr (k + 1) v bs (.slice da ys.length dc) ys) := hD.skip HK.out
        clear hD hx Ht htk hin hwf
        go_wp2_with fail
        go_roundw
        case rel => exact ⟨k + 1, v, bs, ys, by go_num, HD.out⟩
        case measure => have := HK.out; simp [intOf]; omega
      · by_cases hw4 : 4 < x.what
        · have HD : Hid (Dn xs w p wr (k + 1) v bs (.slice da ys.length dc) ys) := hD.skip HK.out
          clear hD hx Ht htk hin hwf
          go_wp2_with fail
          go_roundw
          case rel => exact ⟨k + 1, v, bs, ys, by go_num, HD.out⟩
          case measure => have := HK.out; simp [intOf]; omega
        · have hxl : x.d.length ≤ 4000 := by have := HT.out; unfold wt at Ht; omega
          have hll := layL_len x.what x.n hwf.2 x.d (by omega)
          have Hb : Hid (bs.length + ((layL x.what x.n x.d).getD []).length ≤ 2 * tot xs (k + 1) ∧ 2 * tot xs (k + 1) ≤ 8000) := ⟨by have := hD.len; unfold wt at Ht; omega, by have := HT.out; omega⟩
          obtain ⟨sa, sc, hs⟩ := hin.slice
          have HI : Hid (In w (.slice sa x.d.length sc) x.d) := by rw [← hs]; exact hin
          rw [hs] at c2
          have hlay := lay_any p v (.slice sa x.d.length sc) bs x.d x.what x.n hwf.2 wr hD.wn.wr (HI.out.inap (by rw [HN.out]; exact hD.wn.below) (fun i hi => by rw [HN.out]; exact hD.wn.hi i hi)) (by omega) (by have := Hb.out; omega)
          have HWF : Hid (x.n ≤ 9223372036854775807) := hwf.2
          have HXL : Hid (x.d.length ≤ 4000) := hxl
          have hbw : b < wr.heap.size := by have := hD.wn.le; omega
          have hbn : ¬ WS p v b := fun e => by have := hD.wn.hi b e; omega
          clear hin hs hx Ht htk hll hwf hxl
          have HD : Hid (Dn xs w p wr k v bs (.slice da ys.length dc) ys) := hD
          clear hD
          go_wp2_with fail
          refine hlay.mono ?_
          rintro e w3 ⟨v3, y, he, hW3, hF3, hL3, hY3, hyn⟩
          obtain ⟨ya, yc, hy⟩ := hY3.slice
          clear hyn hlay hY3
          cases hlx : layL x.what x.n x.d with
          | none =>
            rw [hlx] at he hW3 hy
            simp only [Option.isNone_none, if_true, Option.getD_none, List.length_nil] at he hW3 hy
            subst hy he
            have HD3 : Hid (Dn xs w p w3 (k + 1) v3 bs (.slice da ys.length dc) ys) := HD.out.none HK.out hW3 hF3 hL3
            clear HD hW3 hF3 hL3 c0 c1 c2
            go_wp2_with (first | (go_at_call 14; refine (num_any _ _).mono ?_; rintro e w' ⟨rfl, hw⟩; obtain rfl := hw.symm; clear hw) | fail)
            go_roundw
            case rel => exact ⟨k + 1, _, bs, ys, by go_num, HD3.out⟩
            case measure => have := HK.out; simp [intOf]; omega
          | some d =>
            rw [hlx] at he hW3 hy
            simp only [Option.isNone_some, Option.getD_some, Bool.false_eq_true, if_false] at he hW3 hy
            obtain ⟨yl, hyl⟩ : ∃ n : Nat, n = d.length := ⟨_, rfl⟩
            rw [← hyl] at hy
            subst hy he
            clear hyl
            have Hl : Hid ((bs ++ d).length ≤ 2 * tot xs (k + 1)) := by have := Hb.out; rw [hlx] at this; rw [Option.getD_some] at this; show _ ≤ _; rw [List.length_append]; exact this.1
            obtain ⟨h3, hr3⟩ := HD.out.laid hW3 hF3 hL3
            have e0 : w3.cell? ⟨b, o + k * 3, none⟩ = some (.int .i64 x.what) := (World.cell?_of_block (w := wr) (hF3.block b hbw hbn)).trans c0
            have e1 : w3.cell? ⟨b, o + k * 3 + 1, none⟩ = some (.int .i64 x.n) := (World.cell?_of_block (w := wr) (hF3.block b hbw hbn)).trans c1
            have e2 : w3.cell? ⟨b, o + k * 3 + 2, none⟩ = some (.slice sa x.d.length sc) := (World.cell?_of_block (w := wr) (hF3.block b hbw hbn)).trans c2
            have HG : Hid (Good w (x, .slice sa x.d.length sc)) := ⟨by show 0 ≤ x.what; omega, by show x.what ≤ 4; omega, HWF.out, HXL.out, HI.out, by show layL x.what x.n x.d = some ((layL x.what x.n x.d).getD []); rw [hlx]; rfl⟩
            have HO : Hid (oL (x, .slice sa x.d.length sc) = d) := by show (layL x.what x.n x.d).getD [] = d; rw [hlx]; rfl
            have H3 : Hid (WrN p w w3 p v3 (bs ++ d)) := h3
            have HR3 : Hid (Row w3 p (.slice da ys.length dc) ys) := hr3
            have hz3 := h3.le
            have hyk : ys.length ≤ 200 := by have := HD.out.few; have := tot_ge xs k hk; have := tot_le xs k; have := HT.out; omega
            have hb3 : b < w3.heap.size := by have := hF3.size; omega
            clear hlx hW3 hF3 hL3 c0 c1 c2 h3 hr3 hbw
            obtain ⟨i29, hi, hz0, hz1, hz2⟩ := info_parts info29
            have hn3 := has_new w3 #[.int .i64 x.what, .int .i64 x.n, .slice sa x.d.length sc] 29 w3.heap.size rfl
            have hnw : ∀ (j : Nat) (u : Value), ([.int .i64 x.what, .int .i64 x.n, .slice sa x.d.length sc] : List Value)[j]? = some u → (w3.alloc (.cells #[.int .i64 x.what, .int .i64 x.n, .slice sa x.d.length sc] 29)).cell? ((⟨w3.heap.size, 0, none⟩ : Addr).add j) = some u := fun j u hu => by
              rw [Addr.add_mid, Nat.zero_add, hn3.cell, ← hu]; simp
            have hone : ∀ u ∈ ([.int .i64 x.what, .int .i64 x.n, .slice sa x.d.length sc] : List Value), u.oneCell' = true := fun u hu => by
              simp at hu; rcases hu with rfl | rfl | rfl <;> rfl
            have HRA : Hid (Row (w3.alloc (.cells #[.int .i64 x.what, .int .i64 x.n, .slice sa x.d.length sc] 29)) p (.slice da ys.length dc) ys) := World.ownsRow.alloc HR3.out _
            go_wp2_with (first | (go_at_call 14; refine (num_any _ _).mono ?_; rintro e w' ⟨rfl, hw⟩; obtain rfl := hw.symm; clear hw) | (refine wpList_append_own _ rfl _ _ 22 rfl p 29 i29 (.agg #[.int .i64 0, .int .i64 0, .slice none 0 0]) 3 40 Try.underlying22 hi hz0 hz1 hz2 rfl (by omega) _ ys.length (rowL ys) rfl HRA.out ⟨w3.heap.size, 0, none⟩ 1 1 [.int .i64 x.what, .int .i64 x.n, .slice sa x.d.length sc] rfl rfl hnw hone (by simp only [maxLen]; omega) (by omega) (by simp; omega) ?_; intro v' w4 hown4 hgr4 hnil; clear hnil))
            have hr4 : Row w4 p v' (ys ++ [(x, .slice sa x.d.length sc)]) := by
              unfold Row
              rw [← rowL_snoc, List.length_append]
              exact hown4
            have HD4 : Hid (Dn xs w p w4 (k + 1) v3 (bs ++ d) v' (ys ++ [(x, .slice sa x.d.length sc)])) := HD.out.more HX.out (H3.out.grow ((Below.refl _ _).alloc (Nat.le_refl _) _)) HRA.out hr4 hgr4 HG.out HO.out Hl.out
            clear hown4 hgr4 hr4 HD HRA HR3 hnw hone hn3
            go_wp2_with fail
            go_roundw
            case rel => exact ⟨k + 1, _, _, _, by go_num, HD4.out⟩
            case measure => have := HK.out; simp [intOf]; omega
    · obtain rfl : k = xs.length := by omega
      have i1 : ¬ (xs.length : Int) < xs.length := by omega
      have hbl : bs.length ≤ 8000 := by have := HT.out; have := hD.len; omega
      have hplt := hD.wn.wr.has.lt
      have HGD : Hid (∀ y ∈ ys, Good w y) := hD.good
      have hyk : ys.length ≤ 200 := by have := hD.few; have := tot_ge xs xs.length (Nat.le_refl _); have := HT.out; omega
      go_wp2_with fail
      refine (all_any p v bs wr hD.wn.wr).mono ?_
      rintro e w3 ⟨u, rfl, hN3⟩
      obtain ⟨hO3, hn3, hB3⟩ := hN3
      have hz3 := hB3.size
      have hD3 := hD.grow hB3
      clear hD
      obtain ⟨ua, uc, rfl⟩ := hO3.slice
      go_wp2_with fail
      refine (readx_any _ bs w3 (hO3.bytes (by omega)) (by omega)).mono ?_
      rintro e w4 ⟨r, lv0, rfl, hr, hR4, hB4, hI4⟩
      have hD4 := hD3.grow hB4
      clear hD3
      have hK0 : Bk w p r (.slice da ys.length dc) ys w4 0 lv0 0 := ⟨Nat.zero_le _, by rw [List.drop_zero, ← hD4.bse]; exact hR4, by rw [List.drop_zero, ← hD4.bse]; omega, hD4.row, hD4.wn.below, by omega⟩
      clear hD4 hR4 hB4 hI4 hB3 hO3 hn3
      go_wp2_with fail
      go_loopw [14] (fun i wr => ∃ (j : Nat) (lv : Value) (at_ : Nat), i = .int .i64 j ∧ Bk w p r (.slice da ys.length dc) ys wr j lv at_) (fun i _ => ys.length - (intOf i).toNat)
      case atStart => exact ⟨0, _, _, rfl, hK0⟩
      case round =>
        clear hK0
        obtain ⟨j, lv, at_, rfl, hK⟩ := hrel
        have hjl : j ≤ ys.length := hK.jle
        by_cases hj : j < ys.length
        · have i2 : (j : Int) < ys.length := by omega
          have hy : ys[j]? = some ys[j] := List.getElem?_eq_getElem hj
          obtain ⟨g, rfl, c0, c1, c2⟩ := hK.row.at_ hy
          have hG := HGD.out ys[j] (List.getElem_mem _)
          have hdrop : ((ys.drop j).map oL).flatten = oL ys[j] ++ ((ys.drop (j + 1)).map oL).flatten := by rw [List.drop_eq_getElem_cons hj, List.map_cons, List.flatten_cons]
          clear hy
          generalize ys[j] = y at *
          obtain ⟨x, sv⟩ := y
          obtain ⟨sa, sc, hs⟩ := hG.by_.slice
          simp only at hs c0 c1 c2
          subst hs
          have hKr := hK.rd
          have hKl := hK.le
          rw [hdrop] at hKr hKl
          have hsame := same_any r lv _ (oL (x, .slice sa x.d.length sc)) at_ x (.slice sa x.d.length sc) hG.lo hG.hi hG.n (by have := hG.d; simp only at this; omega) _ (hG.by_.keep (by rw [HN.out]; exact hK.below)) hG.lay hKr (by omega)
          have HJ : Hid (j < ys.length) := hj
          have HKK : Hid (Bk w p r (.slice (some ⟨g, 0, none⟩) ys.length dc) ys _ j lv at_) := hK
          have HDR : Hid (((ys.drop j).map oL).flatten = oL (x, .slice sa x.d.length sc) ++ ((ys.drop (j + 1)).map oL).flatten) := hdrop
          clear hK hKr hKl hdrop hG
          go_wp2_with fail
          refine hsame.mono ?_
          rintro e w5 ⟨rfl, lv5, hR5, hE5⟩
          have HK5 : Hid (Bk w p r (.slice (some ⟨g, 0, none⟩) ys.length dc) ys w5 (j + 1) lv5 (at_ + (oL (x, .slice sa x.d.length sc)).length)) := HKK.out.step HJ.out HDR.out hR5 hE5
          clear hsame hR5 hE5 HKK c0 c1 c2
          go_wp2_with fail
          go_roundw
          case rel => exact ⟨j + 1, lv5, _, by go_num, HK5.out⟩
          case measure => have := HJ.out; simp [intOf]; omega
        · have i2 : ¬ (j : Int) < ys.length := by omega
          obtain rfl : j = ys.length := by omega
          have hKr := hK.rd
          rw [List.drop_length] at hKr
          have hend := end_any r lv _ at_ 0 _ hKr
          have he : endE ((([] : List (AddD × Value)).map oL).flatten) 0 = 0 := rfl
          rw [he] at hend
          have hBw := hK.below
          have hz := hKr.lt
          have hag := again_any _ bb _ ts ta tcap tb to_ _ (HB.out.bytes (by rw [HN.out]; exact hBw) (by omega)) (HTk.out.keep (by rw [HN.out]; exact hBw)) Hb2.out
          have hzp : p ≤ r := hK.hi
          clear hK hKr he
          go_wp2_with (first | (go_at_call 34; refine hend.mono ?_; rintro e w' ⟨rfl, hw⟩; obtain rfl := hw.symm; clear hw) | (go_at_call 14; refine (num_any _ _).mono ?_; rintro e w' ⟨rfl, hw⟩; obtain rfl := hw.symm; clear hw) | (go_at_call 37; refine hag.mono ?_; rintro e w6 ⟨rfl, hB6⟩) | (go_at_call 11; refine (works_any _).mono ?_; rintro e w7 ⟨rfl, hB7⟩) | fail)
          go_ret
          refine ⟨rfl, ?_⟩
          rw [HN.out]
          have hz6 := hB6.size
          exact (hBw.trans (hB6.mono (by omega))).trans (hB7.mono (by omega))
set_option maxHeartbeats 1000000 in
theorem back_many (v : Value) (xs : List AddD) (a : Option Addr) (cap b o : Nat) (S : Nat → Value) (ba : Option Addr) (bl bc0 : Nat) (ta : Option Addr) (tl tcap : Nat) (w : World) (hA : Adds w v xs a cap b o S) (h : ¬ (fewB xs = true ∧ bl ≤ 2000 ∧ tl ≤ 60)) :
    Calls Try.prog 9 #[v, .slice ba bl bc0, .slice ta tl tcap] w fun e w' => e = .returned (.bool true) ∧ Below w.heap.size w w' := by
  have hfew := few_any v xs a cap b o S w hA
  obtain rfl := hA.val
  clear hA
  cases hf : fewB xs with
  | false =>
    rw [hf] at hfew
    go_enter Try.func9, Try.ntmps9
    go_wp2_with (first | (go_at_call 10; refine hfew.mono ?_; rintro e w' ⟨rfl, hw⟩; obtain rfl := hw.symm; clear hw) | (go_at_call 11; refine (works_any _).mono ?_; rintro e w3 ⟨rfl, hw3⟩) | fail)
    go_ret
    exact ⟨rfl, hw3⟩
  | true =>
    rw [hf] at hfew
    by_cases h1 : bl ≤ 2000
    · have i0 : ¬ (2000 : Int) < bl := by omega
      have i1 : (60 : Int) < tl := by
        have : ¬ tl ≤ 60 := fun e => h ⟨hf, h1, e⟩
        omega
      clear h hf
      go_enter Try.func9, Try.ntmps9
      go_wp2_with (first | (go_at_call 10; refine hfew.mono ?_; rintro e w' ⟨rfl, hw⟩; obtain rfl := hw.symm; clear hw) | (go_at_call 11; refine (works_any _).mono ?_; rintro e w3 ⟨rfl, hw3⟩) | fail)
      go_ret
      exact ⟨rfl, hw3⟩
    · have i0 : (2000 : Int) < bl := by omega
      clear h hf
      go_enter Try.func9, Try.ntmps9
      go_wp2_with (first | (go_at_call 10; refine hfew.mono ?_; rintro e w' ⟨rfl, hw⟩; obtain rfl := hw.symm; clear hw) | (go_at_call 11; refine (works_any _).mono ?_; rintro e w3 ⟨rfl, hw3⟩) | fail)
      go_ret
      exact ⟨rfl, hw3⟩
theorem back_walk (v : Value) (xs : List AddD) (a : Option Addr) (cap b o : Nat) (S : Nat → Value) (bv : Value) (bb : List UInt8) (tv : Value) (ts : List (Int × Int)) (ta : Option Addr) (tcap tb to_ : Nat) (w : World) (hA : Adds w v xs a cap b o S) (hB : In w bv bb) (hT : Takes w tv ts ta tcap tb to_) :
    Calls Try.prog 9 #[v, bv, tv] w fun e w' => e = .returned (.bool true) ∧ Below w.heap.size w w' := by
  by_cases h : fewB xs = true ∧ bb.length ≤ 2000 ∧ ts.length ≤ 60
  · exact back_few v xs a cap b o S bv bb tv ts ta tcap tb to_ w hA h.1 hB hT h.2.1 h.2.2
  · obtain ⟨ba, bc, rfl⟩ := hB.slice
    obtain rfl := hT.val
    exact back_many v xs a cap b o S ba _ bc ta _ tcap w hA h
end Go.Proofs.Ytgoflpfafkmmgaa
