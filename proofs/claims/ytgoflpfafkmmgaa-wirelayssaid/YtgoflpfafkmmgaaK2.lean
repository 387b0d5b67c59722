/- WireLays: the law's walk. -/
import Derived.Test.YtgoflpfafkmmgaaK1
namespace Go.Proofs.Ytgoflpfafkmmgaa
open Go.RowKit

theorem new_empty {w w2 : World} {v2 : Value} {x : List UInt8} (hO : Own w2 v2 x) (hg : (w.alloc (.cells #[] 5)).grownBy w2 (Value.slice (some ⟨w.heap.size, 0, none⟩) 0 0).ownBlock) (hL : Loc (w.alloc (.cells #[] 5)) (.slice (some ⟨w.heap.size, 0, none⟩) 0 0) v2) : New w w2 v2 x := by
  refine ⟨hO, fun k hk => ?_, Fr.below ((Below.refl w.heap.size w).alloc (Nat.le_refl _) _) (grown_fr hg) (by simp) (fun k hk e => by simp [Value.ownBlock] at e; omega)⟩
  rcases hL k hk with h | h
  · simp [Value.ownBlock] at h; omega
  · simp at h; omega
/-- A byte that is written into what the call owns. -/
theorem Own.set {w : World} {g c : Nat} {d : List UInt8} (h : Own w (.slice (some ⟨g, 0, none⟩) d.length c) d) (j : Nat) (y : UInt8) : Own (w.setCell ⟨g, j, none⟩ (bc y)) (.slice (some ⟨g, 0, none⟩) (d.set j y).length c) (d.set j y) := by
  rcases h.2 with ⟨h0, _⟩ | ⟨g', cap, cur, he, hb, hg, hn, hc, hs, ht⟩
  · cases h0
  · simp only [Value.slice.injEq, Option.some.injEq, Addr.mk.injEq] at he
    obtain ⟨⟨rfl, _⟩, _, rfl⟩ := he
    refine ⟨by simp, .inr ⟨g, c, cur.setIfInBounds j (bc y), rfl, hb, heap_setCell_same w g j cur 5 _ hg, by simpa using hn, hc, by simpa using hs, ?_⟩⟩
    rw [Array.toList_setIfInBounds, List.length_set, List.take_set, ht, List.map_set]
/-- A slice that holds bytes has a place. -/
theorem Own.some {w : World} {a : Option Addr} {n c : Nat} {d : List UInt8} (h : Own w (.slice a n c) d) (hd : 0 < d.length) : ∃ g, a = .some ⟨g, 0, none⟩ ∧ n = d.length := by
  rcases h.2 with ⟨h0, h1⟩ | ⟨g', cap, cur, he, _⟩
  · omega
  · simp only [Value.slice.injEq] at he
    exact ⟨g', he.1, he.2.1⟩
theorem Own.row {w : World} {g n c : Nat} {d : List UInt8} (h : Own w (.slice (.some ⟨g, 0, none⟩) n c) d) : ∃ cur, Has w g cur 5 := by
  rcases h.2 with ⟨h0, h1⟩ | ⟨g', cap, cur, he, hb, hg, _⟩
  · cases h0
  · simp only [Value.slice.injEq, Option.some.injEq, Addr.mk.injEq] at he
    obtain ⟨⟨rfl, _⟩, _⟩ := he
    exact ⟨cur, hg⟩
theorem wrap_succ (y : UInt8) : IntKind.u8.wrap (bv y + 1) = bv (y + 1) := by
  rw [IntKind.wrap_u8]; unfold bv; rw [UInt8.toNat_add]; simp
def laysΦ (B : List UInt8) (s : ByteArray) (p ul uc : Nat) (ua : Option Addr) : Nat → Value → World → Prop
  | 0, v, _ => v = .pointer (some ⟨p, 0, none⟩)
  | 1, v, w => Bytes w v B
  | 2, v, _ => v = .string s
  | 3, v, _ => v = .slice ua ul uc
  | 4, v, _ => v = .string s
  | 5, v, _ => v = .bool true
  | 6, v, _ => v = .bool true
  | 7, v, _ => v = .pointer none
  | 8, v, _ => v = .int .i64 1
  | 9, v, _ => v = .int .i64 1
  | 10, v, _ => v = .bool true
  | 11, v, _ => v = .bool true
  | 12, v, _ => v = .bool true
  | 13, v, _ => v = .pointer none
  | 14, v, _ => v = .int .i64 1
  | 15, v, _ => v = .int .i64 1
  | 16, v, _ => v = .bool true
  | 17, v, _ => v = .bool true
  | 18, v, _ => v = .bool true
  | 19, v, _ => v = .pointer none
  | 20, v, _ => v = .int .i64 1
  | 21, v, _ => v = .int .i64 1
  | 22, v, _ => v = .bool true
  | 23, v, _ => v = .bool true
  | 24, v, _ => v = .bool true
  | 25, v, _ => v = .pointer none
  | 26, v, _ => v = .int .i64 1
  | 27, v, _ => v = .int .i64 1
  | 28, v, _ => v = .bool true
  | 29, v, _ => v = .bool true
  | 30, v, _ => v = .bool true
  | 31, v, _ => v = .pointer none
  | 32, v, _ => v = .int .i64 1
  | 33, v, _ => v = .int .i64 1
  | 34, v, _ => v = .bool true
  | 35, v, _ => v = .bool true
  | 36, v, _ => v = .bool true
  | 37, v, _ => v = .pointer none
  | 38, v, _ => v = .int .i64 1
  | 39, v, _ => v = .int .i64 1
  | 40, v, _ => v = .bool true
  | 41, v, _ => v = .bool true
  | 42, v, _ => v = .bool true
  | 43, v, _ => v = .pointer none
  | 44, v, _ => v = .slice none 0 0
  | 45, v, _ => v = .int .i64 0
  | 46, v, _ => v = .bool true
  | 47, v, _ => v = .bool true
  | 48, v, _ => v = .bool true
  | 49, v, _ => v = .bool true
  | 50, v, _ => v = .bool true
  | 51, v, _ => v = .bool true
  | _, _, _ => False
set_option maxRecDepth 100000 in
set_option maxHeartbeats 4000000 in
theorem lays_few (v : Value) (xs : List AddD) (a : Option Addr) (cap b o : Nat) (S : Nat → Value) (w : World) (hA : Adds w v xs a cap b o S) (hf : fewB xs = true) :
    Calls Try.prog 3 #[v] w fun e w' => e = .returned (.bool true) ∧ Below w.heap.size w w' := by
  have hfew := few_any v xs a cap b o S w hA
  rw [hf] at hfew
  have htot : tot xs xs.length ≤ 4000 := by unfold fewB at hf; simpa using hf
  have hlen := hA.len
  unfold maxLen at hlen
  obtain rfl := hA.val
  have HA : Hid (Adds w (.slice a xs.length cap) xs a cap b o S) := hA
  have HT : Hid (tot xs xs.length ≤ 4000) := htot
  clear hA hf htot
  go_enter Try.func3, Try.ntmps3
  go_wp2_with (first | (go_at_call 10; refine hfew.mono ?_; rintro e w' ⟨rfl, hw⟩; obtain rfl := hw.symm; clear hw) | fail)
  refine (wnew_any w).mono ?_
  rintro e w1 ⟨rfl, hB, hW⟩
  have h1 := WrN.new w w1 hB hW
  clear hB hW hfew
  generalize hNw : w.heap.size = p at h1
  have HN : Hid (w.heap.size = p) := hNw
  clear hNw
  go_wp2_with fail
  go_loopw [4, 5] (fun uw i wr => ∃ (k : Nat) (v : Value) (bs : List UInt8), k ≤ xs.length ∧ i = .int .i64 k ∧ WrN p w wr p v bs ∧ Own wr uw bs ∧ (∀ j, uw.ownBlock = some j → p ≤ j ∧ ¬ WS p v j) ∧ bs.length ≤ 2 * tot xs k) (fun _ i _ => xs.length - (intOf i).toNat)
  case atStart => exact ⟨0, _, [], by omega, rfl, h1, Own.nil _, (fun j hj => by cases hj), by simp⟩
  case round =>
    obtain ⟨k, v, bs, hk, rfl, hWN, hOw, hdis, hbs⟩ := hrel
    obtain ⟨ua, uc, rfl⟩ := hOw.slice
    by_cases hkl : k < xs.length
    · have i1 : (k : Int) < xs.length := by omega
      have hx : xs[k]? = some xs[k] := List.getElem?_eq_getElem hkl
      obtain rfl := HA.out.at_ (by intro e; simp [e] at hkl)
      have hblt : b < p := by rw [← HN.out]; exact block_of_cell (HA.out.c0 k _ hx)
      have c0 := (hWN.below.cell (p := ⟨b, o + k * 3, none⟩) hblt).trans (HA.out.c0 k _ hx)
      have c1 := (hWN.below.cell (p := ⟨b, o + k * 3 + 1, none⟩) hblt).trans (HA.out.c1 k _ hx)
      have c2 := (hWN.below.cell (p := ⟨b, o + k * 3 + 2, none⟩) hblt).trans (HA.out.c2 k _ hx)
      have hin := HA.out.by_ k _ hx
      have hwf := HA.out.wf xs[k] (List.getElem_mem _)
      have Ht := tot_succ xs k _ hx
      have htk := tot_le xs (k + 1)
      generalize xs[k] = x at *
      have hxl : x.d.length ≤ 4000 := by have := HT.out; unfold wt at Ht; omega
      have hll := layL_len x.what x.n hwf.2 x.d (by omega)
      have Hb : Hid (bs.length + ((layL x.what x.n x.d).getD []).length ≤ 2 * tot xs (k + 1) ∧ 2 * tot xs (k + 1) ≤ 8000) := ⟨by unfold wt at Ht; omega, by have := HT.out; omega⟩
      have hplt := hWN.wr.has.lt
      have hbx : Bytes wr (S k) x.d := hin.bytes (by rw [HN.out]; exact hWN.below) (by omega)
      have HX : Hid (Bytes wr (S k) x.d) := hbx
      obtain ⟨sa, sc, hs⟩ := hin.slice
      have hinw := hin
      rw [hs] at c2 HX hinw
      clear hin hs hbx hx Ht htk hll
      have hbw : b < wr.heap.size := by have := hWN.le; omega
      have hbne : ¬ b = wr.heap.size := by omega
      have HE := own_empty (has_new wr #[] 5 wr.heap.size rfl)
      have HX2 : Hid (Bytes (wr.alloc (.cells #[] 5)) (.slice sa x.d.length sc) x.d) := HX.out.below ((Below.refl _ _).alloc (Nat.le_refl _) _)
      go_wp2_with (refine wpList_append_bytes _ rfl _ _ 27 27 rfl info5 Try.underlying27 Try.underlying27 (.slice (some ⟨wr.heap.size, 0, none⟩) 0 0) _ [] x.d rfl rfl HE HX2.out (by simp; omega) ?_; intro um w2 hO2 hg2 hL2 hnil; clear hnil; rw [List.nil_append] at hO2; have hN2 : New wr w2 um x.d := new_empty hO2 hg2 hL2; clear hO2 hg2 hL2; obtain ⟨ma, mc, hm⟩ := hN2.own.slice; subst hm)
      have hz2 := hN2.below.size
      have hW2 := hWN.grow hN2.below
      have d0 := (hN2.below.cell (p := ⟨b, o + k * 3, none⟩) hbw).trans c0
      have d1 := (hN2.below.cell (p := ⟨b, o + k * 3 + 1, none⟩) hbw).trans c1
      have d2 := (hN2.below.cell (p := ⟨b, o + k * 3 + 2, none⟩) hbw).trans c2
      have hOwlt : ∀ j, (Value.slice ua bs.length uc).ownBlock = some j → j < w2.heap.size := fun j hj => by have := hOw.lt' hj; omega
      have hOw2 : Own w2 _ bs := hOw.fr (S := fun _ => False) (Fr.of_below hN2.below) (fun _ _ h => h)
      have hFw : Fr (WS p v) w w2 := ⟨hW2.below.os, hW2.below.tape, hW2.below.output, hW2.below.size, fun j hj _ => hW2.below.block j (by rw [← HN.out]; exact hj)⟩
      have hmn : ∀ j, (Value.slice ma x.d.length mc).ownBlock = some j → ¬ WS p v j := fun j hj e => by have := hN2.2.1 j hj; have := hWN.wr.lt j e; omega
      have HX3 : Hid (Bytes w2 (.slice sa x.d.length sc) x.d) := HX.out.below hN2.below
      have hlay := lay_any p v (.slice ma x.d.length mc) bs x.d x.what x.n hwf.2 w2 hW2.wr (hN2.own.inap hmn) (by omega) (by have := Hb.out; omega)
      have hlay' := lay_any p v (.slice ma x.d.length mc) bs x.d x.what x.n hwf.2 w2.drew hW2.wr.drew ((hN2.own.inap hmn).fr' ⟨rfl, rfl, rfl, Nat.le_refl _, fun _ _ _ => rfl⟩) (by omega) (by have := Hb.out; omega)
      clear HE HX2 c0 c1 c2 hWN hOw
      go_region_held3 (fun W => W.cell? ⟨b, o + k * 3, none⟩ = some (.int .i64 x.what) ∧ W.cell? ⟨b, o + k * 3 + 1, none⟩ = some (.int .i64 x.n)) (first | exact ⟨d0, d1⟩ | exact ⟨e0, e1⟩)
        ((first | (go_at_call 13; (first | refine hlay.mono ?_ | refine hlay'.mono ?_); rintro e w3 ⟨v3, y, he, hW3, hF3, hL3, hY3, hyn⟩; obtain ⟨ec, hec⟩ : ∃ ec : Int, ec = (if (layL x.what x.n x.d).isNone then 2 else 0) := ⟨_, rfl⟩; rw [← hec] at he; subst he; clear hec; obtain ⟨ya, yc, hy⟩ := hY3.slice; obtain ⟨yl, hyl⟩ : ∃ n : Nat, n = ((layL x.what x.n x.d).getD []).length := ⟨_, rfl⟩; rw [← hyl] at hy; subst hy; clear hyl; have hF3' : Fr (WS p v) w2 w3 := ⟨hF3.os, hF3.tape, hF3.output, hF3.size, hF3.block⟩; have hL3' : Loc w2 v v3 := hL3; have hbn : ¬ WS p v b := (fun e => by have := hW2.hi b e; omega); have e0 : w3.cell? ⟨b, o + k * 3, none⟩ = some (.int .i64 x.what) := (World.cell?_of_block (w := w2) (hF3'.block b (by omega) hbn)).trans d0; have e1 : w3.cell? ⟨b, o + k * 3 + 1, none⟩ = some (.int .i64 x.n) := (World.cell?_of_block (w := w2) (hF3'.block b (by omega) hbn)).trans d1)))
      have hz3 := hF3'.size
      have hmn3 : ∀ j, (Value.slice ma x.d.length mc).ownBlock = some j → ¬ WS p v3 j := fun j hj e => by
        rcases e with e | e
        · exact hmn j hj (.inl e)
        · rcases hL3' j e with h | h
          · exact hmn j hj (.inr h)
          · have := hN2.own.lt' hj; omega
      have hM3 : Own w3 (.slice ma x.d.length mc) x.d := hN2.own.fr hF3' (fun j hj => hmn j hj)
      have HX4 : Bytes w3 (.slice sa x.d.length sc) x.d := by
        rcases hinw with ⟨h0, _, _, _⟩ | h0
        · have e9 : x.d = [] := h0
          rw [e9]
          exact ⟨sa, sc, 0, 0, rfl, Nat.zero_le _, fun h => absurd rfl h, fun j hj => absurd hj (by simp), by omega⟩
        · exact ((Bytes.ap (S := WS p v) h0 (fun j hj e => by have := hW2.hi j e; rw [HN.out] at hj; omega)).fr (hFw.trans hF3') (fun _ _ e => e)).bytes
      have e2 : w3.cell? ⟨b, o + k * 3 + 2, none⟩ = some (.slice sa x.d.length sc) := (World.cell?_of_block (w := w2) (hF3'.block b (by omega) hbn)).trans d2
      have q1 := bytes_string Try.underlying27 Try.underlying5 Try.underlying9 w3 _ x.d (hM3.bytes (by omega))
      have q2 := bytes_string Try.underlying27 Try.underlying5 Try.underlying9 w3 _ x.d HX4
      have q1' : (convert 27 9 (.slice ma x.d.length mc)).run Try.prog w3.drew = .ok (.string ⟨x.d.toArray⟩) w3.drew := bytes_string Try.underlying27 Try.underlying5 Try.underlying9 w3.drew _ x.d ((hM3.bytes (by omega)).below ⟨rfl, rfl, rfl, Nat.le_refl _, fun _ _ => rfl⟩)
      have q2' : (convert 27 9 (.slice sa x.d.length sc)).run Try.prog w3.drew = .ok (.string ⟨x.d.toArray⟩) w3.drew := bytes_string Try.underlying27 Try.underlying5 Try.underlying9 w3.drew _ x.d (HX4.below ⟨rfl, rfl, rfl, Nat.le_refl _, fun _ _ => rfl⟩)
      have hOw3 : Own w3 _ bs := hOw2.fr hF3' (fun j hj => (hdis j hj).2)
      have hWN3 := hW2.step hW3 hF3' hL3'
      clear d0 d1 d2 e0 e1 hlay hlay' HX HX3 hOw2
      go_wp2_with fail
      go_region_held3 (fun W => W.cell? ⟨b, o + k * 3 + 2, none⟩ = some (.slice sa x.d.length sc) ∧ (convert 27 9 (.slice ma x.d.length mc)).run Try.prog W = .ok (.string ⟨x.d.toArray⟩) W ∧ (convert 27 9 (.slice sa x.d.length sc)).run Try.prog W = .ok (.string ⟨x.d.toArray⟩) W) (first | exact ⟨e2, q1, q2⟩ | exact ⟨e2, q1', q2'⟩)
        ((go_at_call 14; refine (num_any _ _).mono ?_; rintro e w' ⟨rfl, hw⟩; obtain rfl := hw.symm; clear hw))
      have hdis3 : ∀ j, (Value.slice ua bs.length uc).ownBlock = some j → ¬ WS p v3 j := fun j hj e => by
        rcases e with e | e
        · exact (hdis j hj).2 (.inl e)
        · rcases hL3' j e with h | h
          · exact (hdis j hj).2 (.inr h)
          · have := hOw3.lt' hj; have := hOwlt j hj; omega
      generalize hod : (layL x.what x.n x.d).getD [] = od at *
      have hyb : Bytes w3 (.slice ya yl yc) od := hY3.bytes (by omega)
      clear q1 q2 q1' q2' e2 HX4 hM3 hmn3
      go_wp2_with (first | (refine wpList_append_bytes _ rfl _ _ 27 27 rfl info5 Try.underlying27 Try.underlying27 (.slice ua bs.length uc) _ bs od rfl rfl hOw3 hyb (by have := Hb.out; omega) ?_; intro u4 w4 hO4 hg4 hL4 hnil; clear hnil) | fail)
      have hF4 : Fr (fun j => (Value.slice ua bs.length uc).ownBlock = some j) w3 w4 := ⟨hg4.os, hg4.tape, hg4.output, hg4.size, fun j hj hn => hg4.block j hj (fun e => hn e.symm)⟩
      have hz4 := hF4.size
      have hWr4 : Wr w4 p v3 (bs ++ od) := hWN3.wr.fr hF4 (fun j e e' => hdis3 j e e')
      have hWN4 : WrN p w w4 p v3 (bs ++ od) := ⟨hWr4, Fr.below hWN3.below hF4 hWN3.le (fun j hj e => by have := (hdis j e).1; omega), hWN3.hi, by have := hWN3.le; omega⟩
      have hdis4 : ∀ j, u4.ownBlock = some j → p ≤ j ∧ ¬ WS p v3 j := fun j hj => by
        rcases hL4 j hj with h | h
        · exact ⟨(hdis j h).1, hdis3 j h⟩
        · have h' : w3.heap.size ≤ j := h
          exact ⟨by have := hWN3.le; omega, fun e => by have := hWN3.wr.lt j e; omega⟩
      clear hg4 hL4 hWN3 hyb hOw3 hW2 hN2 hW3 hF3 hF3' hL3 hL3' hY3 hyn hdis hdis3 hOwlt hmn hFw hinw
      refine (all_any p _ _ w4 hWr4).mono ?_
      rintro e w5 ⟨xv, rfl, hN5⟩
      have hz5 := hN5.below.size
      have hO5 : Own w5 u4 (bs ++ od) := hO4.fr (S := fun _ => False) (Fr.of_below hN5.below) (fun _ _ h => h)
      have hWN5 := hWN4.grow hN5.below
      have hxn : ∀ j, xv.ownBlock = some j → p ≤ j ∧ ¬ WS p v3 j ∧ u4.ownBlock ≠ some j := fun j hj => by
        have h5 := hN5.2.1 j hj
        exact ⟨by have := hWN4.le; omega, fun e => by have := hWr4.lt j e; omega, fun e => by have := hO4.lt' e; omega⟩
      have hO5x := hN5.own
      have q1 := bytes_string Try.underlying27 Try.underlying5 Try.underlying9 w5 _ _ (hO5x.bytes (by omega))
      have q2 := bytes_string Try.underlying27 Try.underlying5 Try.underlying9 w5 _ _ (hO5.bytes (by omega))
      obtain ⟨xa, xc, rfl⟩ := hO5x.slice
      obtain ⟨u4a, u4c, rfl⟩ := hO5.slice
      have Hl : Hid ((bs ++ od).length ≤ 2 * tot xs (k + 1) ∧ 2 * tot xs (k + 1) ≤ 8000) := ⟨by have := Hb.out; simp; omega, Hb.out.2⟩
      clear hO4 hF4 hWr4 hWN4 hN5 Hb
      generalize bs ++ od = B at *
      generalize (⟨B.toArray⟩ : ByteArray) = s at *
      go_wp2_with (first | (refine wpList_convert_run rfl 27 9 _ rfl (.slice xa B.length xc) _ rfl q1 ?_) | (refine wpList_convert_run rfl 27 9 _ rfl (.slice u4a B.length u4c) _ rfl q2 ?_) | fail)
      clear q1 q2
      go_loopw [11] (fun i wq => ∃ (j : Nat) (d : List UInt8), j ≤ B.length ∧ i = .int .i64 j ∧ d.length = B.length ∧ Own wq (.slice xa B.length xc) d ∧ Fr (fun q => (Value.slice xa B.length xc).ownBlock = some q) w5 wq) (fun i _ => B.length - (intOf i).toNat)
      case atStart => exact ⟨0, B, by omega, rfl, rfl, hO5x, Fr.refl _ _⟩
      case round =>
        obtain ⟨j, d, hj, rfl, hdl, hOq, hFq⟩ := hrel
        by_cases hjl : j < B.length
        · obtain ⟨g, rfl, hh⟩ := hOq.some (by omega)
          clear hh
          obtain ⟨cur, hcur⟩ := hOq.row
          have hfz := hcur.free j
          have hcl := hOq.cells (g := g) rfl j (bc (d[j]?.getD 0)) (by simp [show j < d.length by omega])
          rw [Addr.add_mid, Nat.zero_add] at hcl
          have hws := wrap_succ (d[j]?.getD 0)
          have b0 := bv_nonneg (d[j]?.getD 0)
          have b1 := bv_lt (d[j]?.getD 0)
          generalize d[j]?.getD 0 = y at *
          unfold bc at hcl
          have i3 : (j : Int) < B.length := by omega
          rw [← hdl] at hOq
          have HOq : Hid (Own (wr.setCell ⟨g, j, none⟩ (bc (y + 1))) (.slice (some ⟨g, 0, none⟩) (d.set j (y + 1)).length xc) (d.set j (y + 1))) := hOq.set j (y + 1)
          have hFs : Fr (fun q => (Value.slice (some ⟨g, 0, none⟩) B.length xc).ownBlock = some q) wr (wr.setCell ⟨g, j, none⟩ (bc (y + 1))) := ⟨rfl, rfl, rfl, by simp [World.setCell], fun q _ hq => heap_setCell_other wr ⟨g, j, none⟩ q _ (fun e => hq (by simp [Value.ownBlock, e]))⟩
          have HDL : Hid (d.length = B.length) := hdl
          have hBl : B.length ≤ 8000 := by have := Hl.out; omega
          have HJ : Hid (j < B.length) := hjl
          clear hcur hdl
          go_wp2_with fail
          go_roundw
          case rel =>
            have h1 := HOq.out
            rw [List.length_set, HDL.out] at h1
            exact ⟨j + 1, d.set j (y + 1), HJ.out, by go_num, by rw [List.length_set, HDL.out], h1, hFq.trans hFs⟩
          case measure => have := HJ.out; simp [intOf]; omega
        · have i3 : ¬ (j : Int) < B.length := by omega
          have hWq : WrN p w wr p v3 B := ⟨hWN5.wr.fr hFq (fun q e e' => (hxn q e).2.1 e'), Fr.below hWN5.below hFq hWN5.le (fun q hq e => by have := (hxn q e).1; omega), hWN5.hi, Nat.le_trans hWN5.le hFq.size⟩
          have hOq4 : Own wr (.slice u4a B.length u4c) B := hO5.fr hFq (fun q e e' => (hxn q e').2.2 e)
          go_wp2_with fail
          go_roundw
          case rel => exact ⟨k + 1, v3, B, by omega, by go_num, hWq, hOq4, hdis4, Hl.out.1⟩
          case measure => simp [intOf]; omega
    · obtain rfl : k = xs.length := by omega
      have i1 : ¬ (xs.length : Int) < xs.length := by omega
      have Hbl : Hid (bs.length ≤ 8000) := by have := HT.out; show _ ≤ _; omega
      go_wp2_with fail
      have hplt := hWN.wr.has.lt
      have hU : Bytes wr (.slice ua bs.length uc) bs := hOw.bytes (by omega)
      have hWr := hWN.wr
      have hB0 := hWN.below
      generalize hs : (⟨bs.toArray⟩ : ByteArray) = s at *
      obtain ⟨N, hNe⟩ : ∃ N, N = wr.heap.size := ⟨_, rfl⟩
      have hN : N ≤ wr.heap.size := by omega
      have hNpos : 0 < N := by omega
      have hNp : p ≤ N := by have := hWN.le; omega
      refine wp_region_owes (A := [0, 1, 3, 0, 8, 31, 63, 127, 255, 511, 1023, 2047, 4095, 8191, 16383, 32767, 65535, 131071, 262143, 524287, 1048575, 2097151, 4194303, 8388607, 16777215, 33554431, 67108863, 134217727, 268435455, 536870911, 1073741823, 2147483647, 4294967295, 8589934591, 17179869183, 34359738367, 68719476735, 137438953471, 274877906943, 549755813887, 1099511627775, 2199023255551, 4398046511103, 8796093022207, 17592186044415, 35184372088831, 70368744177663, 140737488355327, 281474976710655, 562949953421311, 1125899906842623, 2251799813685247]) (need := [[(3, none)], [(88, some 0)], [(89, some 1)], [(4, none)], [(91, some 3)], [(90, some 2), (92, some 4)], [(93, some 5)], [(12, none), (94, some 6)], [(95, some 7), (94, some 6)], [(96, some 8), (94, some 6)], [(97, some 9), (94, some 6)], [(94, some 6), (98, some 10)], [(99, some 11)], [(12, none), (100, some 12)], [(101, some 13), (100, some 12)], [(102, some 14), (100, some 12)], [(103, some 15), (100, some 12)], [(100, some 12), (104, some 16)], [(105, some 17)], [(12, none), (106, some 18)], [(107, some 19), (106, some 18)], [(108, some 20), (106, some 18)], [(109, some 21), (106, some 18)], [(106, some 18), (110, some 22)], [(111, some 23)], [(12, none), (112, some 24)], [(113, some 25), (112, some 24)], [(114, some 26), (112, some 24)], [(115, some 27), (112, some 24)], [(112, some 24), (116, some 28)], [(117, some 29)], [(12, none), (118, some 30)], [(119, some 31), (118, some 30)], [(120, some 32), (118, some 30)], [(121, some 33), (118, some 30)], [(118, some 30), (122, some 34)], [(123, some 35)], [(12, none), (124, some 36)], [(125, some 37), (124, some 36)], [(126, some 38), (124, some 36)], [(127, some 39), (124, some 36)], [(124, some 36), (128, some 40)], [(129, some 41)], [(12, none), (130, some 42)], [(131, some 43), (130, some 42)], [(132, some 44), (130, some 42)], [(133, some 45), (130, some 42)], [(130, some 42), (134, some 46)], [(135, some 47)], [(136, some 48)], [(136, some 48), (137, some 49)], [(138, some 50)]]) (laysΦ bs s p bs.length uc ua) N 139 (by kernel_rfl) (by kernel_rfl) (by kernel_rfl) (by kernel_rfl) (by kernel_rfl) (by kernel_rfl) rfl ?stable ?hop ?hend
      case stable =>
        intro i v p q hpq h
        unfold laysΦ at h ⊢
        split at h <;> first | exact h | exact h.le hpq
      case hop =>
        refine ⟨?_, ?_, ?_, ?_, ?_, ?_, ?_, ?_, ?_, ?_, ?_, ?_, ?_, ?_, ?_, ?_, ?_, ?_, ?_, ?_, ?_, ?_, ?_, ?_, ?_, ?_, ?_, ?_, ?_, ?_, ?_, ?_, ?_, ?_, ?_, ?_, ?_, ?_, ?_, ?_, ?_, ?_, ?_, ?_, ?_, ?_, ?_, ?_, ?_, ?_, ?_, ?_, trivial⟩
        · intro a w hle hE
          have h3 : a.tmps.getD 3 undef = .pointer (some ⟨p, 0, none⟩) := hE (3, none) (by simp)
          rw [if_pos (wanted_plain rfl)]
          refine owe_value (v := .pointer (some ⟨p, 0, none⟩)) ?_ (Le.refl _ _) rfl
          go_simp
        · intro a w hle hE
          have h88 : a.tmps.getD 88 undef = .pointer (some ⟨p, 0, none⟩) := hE (88, some 0) (by simp)
          rw [if_pos (wanted_plain rfl)]
          refine owe_call (f := 15) (args := #[.pointer (some ⟨p, 0, none⟩)]) (by go_simp) ?_
          refine (all_any p v bs w (hWr.below (by rw [← hNe]; exact hle.below))).mono ?_
          rintro e w1 ⟨v, rfl, hN1⟩
          exact ⟨_, rfl, Le.of hN1.below (Nat.le_trans hN hle.size), hN1.own.bytes (Nat.lt_of_lt_of_le hNpos (Nat.le_trans hN (Nat.le_trans hle.size hN1.below.size)))⟩
        · intro a w hle hE
          have h89 : Bytes w (a.tmps.getD 89 undef) bs := hE (89, some 1) (by simp)
          rw [if_pos (wanted_plain rfl)]
          have hcv := bytes_string Try.underlying27 Try.underlying5 Try.underlying9 w _ bs h89
          rw [hs] at hcv
          refine owe_value (v := .string s) ?_ (Le.refl _ _) rfl
          have e1 : a.eval (.tmp 89) = a.tmps.getD 89 undef := rfl
          unfold execOp
          simp only [e1, hcv, Sem.run_bind, Sem.run_pure, Result.andThen_ok]
        · intro a w hle hE
          have h4 : a.tmps.getD 4 undef = .slice ua bs.length uc := hE (4, none) (by simp)
          rw [if_pos (wanted_plain rfl)]
          refine owe_value (v := .slice ua bs.length uc) ?_ (Le.refl _ _) rfl
          go_simp
        · intro a w hle hE
          have h91 : a.tmps.getD 91 undef = .slice ua bs.length uc := hE (91, some 3) (by simp)
          rw [if_pos (wanted_plain rfl)]
          have hcv := bytes_string Try.underlying27 Try.underlying5 Try.underlying9 w _ bs (hU.le hle)
          rw [hs] at hcv
          refine owe_value (v := .string s) ?_ (Le.refl _ _) rfl
          have e1 : a.eval (.tmp 91) = _ := h91
          unfold execOp
          simp only [e1, hcv, Sem.run_bind, Sem.run_pure, Result.andThen_ok]
        · intro a w hle hE
          have h90 : a.tmps.getD 90 undef = .string s := hE (90, some 2) (by simp)
          have h92 : a.tmps.getD 92 undef = .string s := hE (92, some 4) (by simp)
          rw [if_pos (wanted_plain rfl)]
          refine owe_value (v := .bool true) ?_ (Le.refl _ _) rfl
          go_simp
        · intro a w hle hE
          have h93 : a.tmps.getD 93 undef = .bool true := hE (93, some 5) (by simp)
          rw [if_pos (wanted_plain rfl)]
          refine owe_value (v := .bool true) ?_ (Le.refl _ _) rfl
          go_simp
        · intro a w hle hE
          have h12 : a.tmps.getD 12 undef = .pointer none := hE (12, none) (by simp)
          have h94 : a.tmps.getD 94 undef = .bool true := hE (94, some 6) (by simp)
          rw [if_pos (wanted_of (j := 6) (b := true) (d := 94) rfl rfl h94)]
          refine owe_value (v := .pointer none) ?_ (Le.refl _ _) rfl
          go_simp
        · intro a w hle hE
          have h95 : a.tmps.getD 95 undef = .pointer none := hE (95, some 7) (by simp)
          have h94 : a.tmps.getD 94 undef = .bool true := hE (94, some 6) (by simp)
          rw [if_pos (wanted_of (j := 6) (b := true) (d := 94) rfl rfl h94)]
          refine owe_call (f := 16) (args := #[.pointer none, .int .i64 1]) (by go_simp) ?_
          refine (wnumber_nil 1 w).mono ?_
          rintro e w1 ⟨rfl, rfl⟩
          exact ⟨_, rfl, Le.refl _ _, rfl⟩
        · intro a w hle hE
          have h96 : a.tmps.getD 96 undef = .int .i64 1 := hE (96, some 8) (by simp)
          have h94 : a.tmps.getD 94 undef = .bool true := hE (94, some 6) (by simp)
          rw [if_pos (wanted_of (j := 6) (b := true) (d := 94) rfl rfl h94)]
          refine owe_call (f := 14) (args := #[.int .i64 1]) (by go_simp) ?_
          refine (num_any _ w).mono ?_
          rintro e w1 ⟨rfl, rfl⟩
          exact ⟨_, rfl, Le.refl _ _, rfl⟩
        · intro a w hle hE
          have h97 : a.tmps.getD 97 undef = .int .i64 1 := hE (97, some 9) (by simp)
          have h94 : a.tmps.getD 94 undef = .bool true := hE (94, some 6) (by simp)
          rw [if_pos (wanted_of (j := 6) (b := true) (d := 94) rfl rfl h94)]
          refine owe_value (v := .bool true) ?_ (Le.refl _ _) rfl
          go_simp
        · intro a w hle hE
          have h94 : a.tmps.getD 94 undef = .bool true := hE (94, some 6) (by simp)
          have h98 : a.tmps.getD 98 undef = .bool true := hE (98, some 10) (by simp)
          rw [if_pos (wanted_plain rfl)]
          refine owe_value (v := .bool true) ?_ (Le.refl _ _) rfl
          go_simp
        · intro a w hle hE
          have h99 : a.tmps.getD 99 undef = .bool true := hE (99, some 11) (by simp)
          rw [if_pos (wanted_plain rfl)]
          refine owe_value (v := .bool true) ?_ (Le.refl _ _) rfl
          go_simp
        · intro a w hle hE
          have h12 : a.tmps.getD 12 undef = .pointer none := hE (12, none) (by simp)
          have h100 : a.tmps.getD 100 undef = .bool true := hE (100, some 12) (by simp)
          rw [if_pos (wanted_of (j := 12) (b := true) (d := 100) rfl rfl h100)]
          refine owe_value (v := .pointer none) ?_ (Le.refl _ _) rfl
          go_simp
        · intro a w hle hE
          have h101 : a.tmps.getD 101 undef = .pointer none := hE (101, some 13) (by simp)
          have h100 : a.tmps.getD 100 undef = .bool true := hE (100, some 12) (by simp)
          rw [if_pos (wanted_of (j := 12) (b := true) (d := 100) rfl rfl h100)]
          refine owe_call (f := 17) (args := #[.pointer none, .int .i64 1]) (by go_simp) ?_
          refine (wsigned_nil w).mono ?_
          rintro e w1 ⟨rfl, rfl⟩
          exact ⟨_, rfl, Le.refl _ _, rfl⟩
        · intro a w hle hE
          have h102 : a.tmps.getD 102 undef = .int .i64 1 := hE (102, some 14) (by simp)
          have h100 : a.tmps.getD 100 undef = .bool true := hE (100, some 12) (by simp)
          rw [if_pos (wanted_of (j := 12) (b := true) (d := 100) rfl rfl h100)]
          refine owe_call (f := 14) (args := #[.int .i64 1]) (by go_simp) ?_
          refine (num_any _ w).mono ?_
          rintro e w1 ⟨rfl, rfl⟩
          exact ⟨_, rfl, Le.refl _ _, rfl⟩
        · intro a w hle hE
          have h103 : a.tmps.getD 103 undef = .int .i64 1 := hE (103, some 15) (by simp)
          have h100 : a.tmps.getD 100 undef = .bool true := hE (100, some 12) (by simp)
          rw [if_pos (wanted_of (j := 12) (b := true) (d := 100) rfl rfl h100)]
          refine owe_value (v := .bool true) ?_ (Le.refl _ _) rfl
          go_simp
        · intro a w hle hE
          have h100 : a.tmps.getD 100 undef = .bool true := hE (100, some 12) (by simp)
          have h104 : a.tmps.getD 104 undef = .bool true := hE (104, some 16) (by simp)
          rw [if_pos (wanted_plain rfl)]
          refine owe_value (v := .bool true) ?_ (Le.refl _ _) rfl
          go_simp
        · intro a w hle hE
          have h105 : a.tmps.getD 105 undef = .bool true := hE (105, some 17) (by simp)
          rw [if_pos (wanted_plain rfl)]
          refine owe_value (v := .bool true) ?_ (Le.refl _ _) rfl
          go_simp
        · intro a w hle hE
          have h12 : a.tmps.getD 12 undef = .pointer none := hE (12, none) (by simp)
          have h106 : a.tmps.getD 106 undef = .bool true := hE (106, some 18) (by simp)
          rw [if_pos (wanted_of (j := 18) (b := true) (d := 106) rfl rfl h106)]
          refine owe_value (v := .pointer none) ?_ (Le.refl _ _) rfl
          go_simp
        · intro a w hle hE
          have h107 : a.tmps.getD 107 undef = .pointer none := hE (107, some 19) (by simp)
          have h106 : a.tmps.getD 106 undef = .bool true := hE (106, some 18) (by simp)
          rw [if_pos (wanted_of (j := 18) (b := true) (d := 106) rfl rfl h106)]
          refine owe_call (f := 18) (args := #[.pointer none, .slice none 0 0]) (by go_simp) ?_
          refine (wbytes_nil none 0 0 (by omega) w).mono ?_
          rintro e w1 ⟨rfl, hb⟩
          exact ⟨_, rfl, Le.of hb (Nat.le_trans hN hle.size), rfl⟩
        · intro a w hle hE
          have h108 : a.tmps.getD 108 undef = .int .i64 1 := hE (108, some 20) (by simp)
          have h106 : a.tmps.getD 106 undef = .bool true := hE (106, some 18) (by simp)
          rw [if_pos (wanted_of (j := 18) (b := true) (d := 106) rfl rfl h106)]
          refine owe_call (f := 14) (args := #[.int .i64 1]) (by go_simp) ?_
          refine (num_any _ w).mono ?_
          rintro e w1 ⟨rfl, rfl⟩
          exact ⟨_, rfl, Le.refl _ _, rfl⟩
        · intro a w hle hE
          have h109 : a.tmps.getD 109 undef = .int .i64 1 := hE (109, some 21) (by simp)
          have h106 : a.tmps.getD 106 undef = .bool true := hE (106, some 18) (by simp)
          rw [if_pos (wanted_of (j := 18) (b := true) (d := 106) rfl rfl h106)]
          refine owe_value (v := .bool true) ?_ (Le.refl _ _) rfl
          go_simp
        · intro a w hle hE
          have h106 : a.tmps.getD 106 undef = .bool true := hE (106, some 18) (by simp)
          have h110 : a.tmps.getD 110 undef = .bool true := hE (110, some 22) (by simp)
          rw [if_pos (wanted_plain rfl)]
          refine owe_value (v := .bool true) ?_ (Le.refl _ _) rfl
          go_simp
        · intro a w hle hE
          have h111 : a.tmps.getD 111 undef = .bool true := hE (111, some 23) (by simp)
          rw [if_pos (wanted_plain rfl)]
          refine owe_value (v := .bool true) ?_ (Le.refl _ _) rfl
          go_simp
        · intro a w hle hE
          have h12 : a.tmps.getD 12 undef = .pointer none := hE (12, none) (by simp)
          have h112 : a.tmps.getD 112 undef = .bool true := hE (112, some 24) (by simp)
          rw [if_pos (wanted_of (j := 24) (b := true) (d := 112) rfl rfl h112)]
          refine owe_value (v := .pointer none) ?_ (Le.refl _ _) rfl
          go_simp
        · intro a w hle hE
          have h113 : a.tmps.getD 113 undef = .pointer none := hE (113, some 25) (by simp)
          have h112 : a.tmps.getD 112 undef = .bool true := hE (112, some 24) (by simp)
          rw [if_pos (wanted_of (j := 24) (b := true) (d := 112) rfl rfl h112)]
          refine owe_call (f := 19) (args := #[.pointer none, .string ⟨#[]⟩]) (by go_simp) ?_
          refine (wtext_nil [] w (by simp)).mono ?_
          rintro e w1 ⟨rfl, hb⟩
          exact ⟨_, rfl, Le.of hb (Nat.le_trans hN hle.size), rfl⟩
        · intro a w hle hE
          have h114 : a.tmps.getD 114 undef = .int .i64 1 := hE (114, some 26) (by simp)
          have h112 : a.tmps.getD 112 undef = .bool true := hE (112, some 24) (by simp)
          rw [if_pos (wanted_of (j := 24) (b := true) (d := 112) rfl rfl h112)]
          refine owe_call (f := 14) (args := #[.int .i64 1]) (by go_simp) ?_
          refine (num_any _ w).mono ?_
          rintro e w1 ⟨rfl, rfl⟩
          exact ⟨_, rfl, Le.refl _ _, rfl⟩
        · intro a w hle hE
          have h115 : a.tmps.getD 115 undef = .int .i64 1 := hE (115, some 27) (by simp)
          have h112 : a.tmps.getD 112 undef = .bool true := hE (112, some 24) (by simp)
          rw [if_pos (wanted_of (j := 24) (b := true) (d := 112) rfl rfl h112)]
          refine owe_value (v := .bool true) ?_ (Le.refl _ _) rfl
          go_simp
        · intro a w hle hE
          have h112 : a.tmps.getD 112 undef = .bool true := hE (112, some 24) (by simp)
          have h116 : a.tmps.getD 116 undef = .bool true := hE (116, some 28) (by simp)
          rw [if_pos (wanted_plain rfl)]
          refine owe_value (v := .bool true) ?_ (Le.refl _ _) rfl
          go_simp
        · intro a w hle hE
          have h117 : a.tmps.getD 117 undef = .bool true := hE (117, some 29) (by simp)
          rw [if_pos (wanted_plain rfl)]
          refine owe_value (v := .bool true) ?_ (Le.refl _ _) rfl
          go_simp
        · intro a w hle hE
          have h12 : a.tmps.getD 12 undef = .pointer none := hE (12, none) (by simp)
          have h118 : a.tmps.getD 118 undef = .bool true := hE (118, some 30) (by simp)
          rw [if_pos (wanted_of (j := 30) (b := true) (d := 118) rfl rfl h118)]
          refine owe_value (v := .pointer none) ?_ (Le.refl _ _) rfl
          go_simp
        · intro a w hle hE
          have h119 : a.tmps.getD 119 undef = .pointer none := hE (119, some 31) (by simp)
          have h118 : a.tmps.getD 118 undef = .bool true := hE (118, some 30) (by simp)
          rw [if_pos (wanted_of (j := 30) (b := true) (d := 118) rfl rfl h118)]
          refine owe_call (f := 20) (args := #[.pointer none, .bool true]) (by go_simp) ?_
          refine (wtruth_nil true w).mono ?_
          rintro e w1 ⟨rfl, hb⟩
          exact ⟨_, rfl, Le.of hb (Nat.le_trans hN hle.size), rfl⟩
        · intro a w hle hE
          have h120 : a.tmps.getD 120 undef = .int .i64 1 := hE (120, some 32) (by simp)
          have h118 : a.tmps.getD 118 undef = .bool true := hE (118, some 30) (by simp)
          rw [if_pos (wanted_of (j := 30) (b := true) (d := 118) rfl rfl h118)]
          refine owe_call (f := 14) (args := #[.int .i64 1]) (by go_simp) ?_
          refine (num_any _ w).mono ?_
          rintro e w1 ⟨rfl, rfl⟩
          exact ⟨_, rfl, Le.refl _ _, rfl⟩
        · intro a w hle hE
          have h121 : a.tmps.getD 121 undef = .int .i64 1 := hE (121, some 33) (by simp)
          have h118 : a.tmps.getD 118 undef = .bool true := hE (118, some 30) (by simp)
          rw [if_pos (wanted_of (j := 30) (b := true) (d := 118) rfl rfl h118)]
          refine owe_value (v := .bool true) ?_ (Le.refl _ _) rfl
          go_simp
        · intro a w hle hE
          have h118 : a.tmps.getD 118 undef = .bool true := hE (118, some 30) (by simp)
          have h122 : a.tmps.getD 122 undef = .bool true := hE (122, some 34) (by simp)
          rw [if_pos (wanted_plain rfl)]
          refine owe_value (v := .bool true) ?_ (Le.refl _ _) rfl
          go_simp
        · intro a w hle hE
          have h123 : a.tmps.getD 123 undef = .bool true := hE (123, some 35) (by simp)
          rw [if_pos (wanted_plain rfl)]
          refine owe_value (v := .bool true) ?_ (Le.refl _ _) rfl
          go_simp
        · intro a w hle hE
          have h12 : a.tmps.getD 12 undef = .pointer none := hE (12, none) (by simp)
          have h124 : a.tmps.getD 124 undef = .bool true := hE (124, some 36) (by simp)
          rw [if_pos (wanted_of (j := 36) (b := true) (d := 124) rfl rfl h124)]
          refine owe_value (v := .pointer none) ?_ (Le.refl _ _) rfl
          go_simp
        · intro a w hle hE
          have h125 : a.tmps.getD 125 undef = .pointer none := hE (125, some 37) (by simp)
          have h124 : a.tmps.getD 124 undef = .bool true := hE (124, some 36) (by simp)
          rw [if_pos (wanted_of (j := 36) (b := true) (d := 124) rfl rfl h124)]
          refine owe_call (f := 21) (args := #[.pointer none, .slice none 0 0]) (by go_simp) ?_
          refine (raw_nil none 0 0 w).mono ?_
          rintro e w1 ⟨rfl, rfl⟩
          exact ⟨_, rfl, Le.refl _ _, rfl⟩
        · intro a w hle hE
          have h126 : a.tmps.getD 126 undef = .int .i64 1 := hE (126, some 38) (by simp)
          have h124 : a.tmps.getD 124 undef = .bool true := hE (124, some 36) (by simp)
          rw [if_pos (wanted_of (j := 36) (b := true) (d := 124) rfl rfl h124)]
          refine owe_call (f := 14) (args := #[.int .i64 1]) (by go_simp) ?_
          refine (num_any _ w).mono ?_
          rintro e w1 ⟨rfl, rfl⟩
          exact ⟨_, rfl, Le.refl _ _, rfl⟩
        · intro a w hle hE
          have h127 : a.tmps.getD 127 undef = .int .i64 1 := hE (127, some 39) (by simp)
          have h124 : a.tmps.getD 124 undef = .bool true := hE (124, some 36) (by simp)
          rw [if_pos (wanted_of (j := 36) (b := true) (d := 124) rfl rfl h124)]
          refine owe_value (v := .bool true) ?_ (Le.refl _ _) rfl
          go_simp
        · intro a w hle hE
          have h124 : a.tmps.getD 124 undef = .bool true := hE (124, some 36) (by simp)
          have h128 : a.tmps.getD 128 undef = .bool true := hE (128, some 40) (by simp)
          rw [if_pos (wanted_plain rfl)]
          refine owe_value (v := .bool true) ?_ (Le.refl _ _) rfl
          go_simp
        · intro a w hle hE
          have h129 : a.tmps.getD 129 undef = .bool true := hE (129, some 41) (by simp)
          rw [if_pos (wanted_plain rfl)]
          refine owe_value (v := .bool true) ?_ (Le.refl _ _) rfl
          go_simp
        · intro a w hle hE
          have h12 : a.tmps.getD 12 undef = .pointer none := hE (12, none) (by simp)
          have h130 : a.tmps.getD 130 undef = .bool true := hE (130, some 42) (by simp)
          rw [if_pos (wanted_of (j := 42) (b := true) (d := 130) rfl rfl h130)]
          refine owe_value (v := .pointer none) ?_ (Le.refl _ _) rfl
          go_simp
        · intro a w hle hE
          have h131 : a.tmps.getD 131 undef = .pointer none := hE (131, some 43) (by simp)
          have h130 : a.tmps.getD 130 undef = .bool true := hE (130, some 42) (by simp)
          rw [if_pos (wanted_of (j := 42) (b := true) (d := 130) rfl rfl h130)]
          refine owe_call (f := 15) (args := #[.pointer none]) (by go_simp) ?_
          refine (all_nil w).mono ?_
          rintro e w1 ⟨rfl, rfl⟩
          exact ⟨_, rfl, Le.refl _ _, rfl⟩
        · intro a w hle hE
          have h132 : a.tmps.getD 132 undef = .slice none 0 0 := hE (132, some 44) (by simp)
          have h130 : a.tmps.getD 130 undef = .bool true := hE (130, some 42) (by simp)
          rw [if_pos (wanted_of (j := 42) (b := true) (d := 130) rfl rfl h130)]
          refine owe_value (v := .int .i64 0) ?_ (Le.refl _ _) rfl
          go_simp
        · intro a w hle hE
          have h133 : a.tmps.getD 133 undef = .int .i64 0 := hE (133, some 45) (by simp)
          have h130 : a.tmps.getD 130 undef = .bool true := hE (130, some 42) (by simp)
          rw [if_pos (wanted_of (j := 42) (b := true) (d := 130) rfl rfl h130)]
          refine owe_value (v := .bool true) ?_ (Le.refl _ _) rfl
          go_simp
        · intro a w hle hE
          have h130 : a.tmps.getD 130 undef = .bool true := hE (130, some 42) (by simp)
          have h134 : a.tmps.getD 134 undef = .bool true := hE (134, some 46) (by simp)
          rw [if_pos (wanted_plain rfl)]
          refine owe_value (v := .bool true) ?_ (Le.refl _ _) rfl
          go_simp
        · intro a w hle hE
          have h135 : a.tmps.getD 135 undef = .bool true := hE (135, some 47) (by simp)
          rw [if_pos (wanted_plain rfl)]
          refine owe_value (v := .bool true) ?_ (Le.refl _ _) rfl
          go_simp
        · intro a w hle hE
          have h136 : a.tmps.getD 136 undef = .bool true := hE (136, some 48) (by simp)
          rw [if_pos (wanted_of (j := 48) (b := true) (d := 136) rfl rfl h136)]
          refine owe_call (f := 11) (args := #[]) (by go_simp) ?_
          refine (works_any w).mono ?_
          rintro e w1 ⟨rfl, hb⟩
          exact ⟨_, rfl, Le.of hb (Nat.le_trans hN hle.size), rfl⟩
        · intro a w hle hE
          have h136 : a.tmps.getD 136 undef = .bool true := hE (136, some 48) (by simp)
          have h137 : a.tmps.getD 137 undef = .bool true := hE (137, some 49) (by simp)
          rw [if_pos (wanted_plain rfl)]
          refine owe_value (v := .bool true) ?_ (Le.refl _ _) rfl
          go_simp
        · intro a w hle hE
          have h138 : a.tmps.getD 138 undef = .bool true := hE (138, some 50) (by simp)
          rw [if_pos (wanted_plain rfl)]
          refine owe_value (v := .bool true) ?_ (Le.refl _ _) rfl
          go_simp
      case hend =>
        intro a w' hle hdef hsz hall hold
        have h0 : a.tmps.getD 2 undef = .bool true := hall 51 _ 2 rfl rfl
        go_wp2_with fail
        refine bodyPost_ret (results_tmp rfl _ _ _) hdef ?_
        refine ⟨by rw [h0], ?_⟩
        rw [HN.out]
        exact hB0.trans (hle.below.mono hNp)
theorem lays_many (v : Value) (xs : List AddD) (a : Option Addr) (cap b o : Nat) (S : Nat → Value) (w : World) (hA : Adds w v xs a cap b o S) (hf : fewB xs = false) :
    Calls Try.prog 3 #[v] w fun e w' => e = .returned (.bool true) ∧ Below w.heap.size w w' := by
  have hfew := few_any v xs a cap b o S w hA
  rw [hf] at hfew
  obtain rfl := hA.val
  clear hA
  go_enter Try.func3, Try.ntmps3
  go_wp2_with (first | (go_at_call 10; refine hfew.mono ?_; rintro e w' ⟨rfl, hw⟩; obtain rfl := hw.symm; clear hw) | (go_at_call 11; refine (works_any _).mono ?_; rintro e w3 ⟨rfl, hw3⟩) | fail)
  go_ret
  exact ⟨rfl, hw3⟩
theorem lays_walk (v : Value) (xs : List AddD) (a : Option Addr) (cap b o : Nat) (S : Nat → Value) (w : World) (hA : Adds w v xs a cap b o S) :
    Calls Try.prog 3 #[v] w fun e w' => e = .returned (.bool true) ∧ Below w.heap.size w w' := by
  cases hf : fewB xs with
  | true => exact lays_few v xs a cap b o S w hA hf
  | false => exact lays_many v xs a cap b o S w hA hf
end Go.Proofs.Ytgoflpfafkmmgaa
