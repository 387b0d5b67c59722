/- MerkleRows: the law's walk. -/
import Derived.Test.YtcmkjgodgocdfaaDoorZcW9
import Derived.Test.YtcmkjgodgocdfaaDoorZcR9
namespace Go.Proofs.YtcmkjgodgocdfaaDoor
open Go.RowKit

/-- The frame, slot by slot. -/
def rowF (f : Nat → Value) : Array Value := #[f 0, f 1, f 2, f 3, f 4, f 5, f 6, f 7, f 8, f 9, f 10, f 11, f 12, f 13, f 14, f 15, f 16, f 17, f 18, f 19, f 20, f 21, f 22, f 23, f 24, f 25, f 26, f 27, f 28, f 29, f 30, f 31, f 32, f 33, f 34, f 35, f 36, f 37, f 38, f 39, f 40, f 41, f 42, f 43, f 44, f 45, f 46, f 47, f 48, f 49, f 50, f 51, f 52, f 53, f 54, f 55, f 56, f 57, f 58, f 59, f 60, f 61, f 62, f 63, f 64, f 65, f 66, f 67, f 68, f 69, f 70, f 71, f 72, f 73, f 74, f 75, f 76, f 77, f 78, f 79, f 80, f 81, f 82, f 83, f 84, f 85, f 86, f 87, f 88, f 89, f 90, f 91, f 92, f 93, f 94, f 95, f 96, f 97, f 98, f 99, f 100, f 101, f 102, f 103, f 104]
/-- Between two turns. -/
def TurnI (b4 b3 b7 bs : Nat) (W1 : World) (a : Act) (w : World) : Prop := ∃ (f : Nat → Value) (t bt : Nat) (Ds : List Nat), t ≤ 2 ∧ f 3 = .pointer (some ⟨b3, 0, none⟩) ∧ f 4 = .pointer (some ⟨b4, 0, none⟩) ∧ f 6 = .int .i64 0 ∧ f 7 = .pointer (some ⟨b7, 0, none⟩) ∧
  f 8 = .func (.func 37) #[] #[.pointer (some ⟨bs, 0, none⟩)] ∧ f 9 = .pointer (some ⟨bt, 0, none⟩) ∧ a = { tmps := rowF f, defers := marksOf Ds } ∧ Has w bt #[.int .i64 (t : Int)] 3 ∧ Below W1.heap.size W1 w ∧ Mrk W1.heap.size Ds w
theorem TurnI.of {b4 b3 b7 bs : Nat} {W1 w : World} {T : Array Value} {ds : List Deferred} (t bt : Nat) (Ds : List Nat) (ht : t ≤ 2) (hT : T = rowF (fun i => T.getD i undef)) (h3 : T.getD 3 undef = .pointer (some ⟨b3, 0, none⟩)) (h4 : T.getD 4 undef = .pointer (some ⟨b4, 0, none⟩)) (h6 : T.getD 6 undef = .int .i64 0)
    (h7 : T.getD 7 undef = .pointer (some ⟨b7, 0, none⟩)) (h8 : T.getD 8 undef = .func (.func 37) #[] #[.pointer (some ⟨bs, 0, none⟩)]) (h9 : T.getD 9 undef = .pointer (some ⟨bt, 0, none⟩)) (hd : ds = marksOf Ds) (hb : Has w bt #[.int .i64 (t : Int)] 3) (hB : Below W1.heap.size W1 w) (hM : Mrk W1.heap.size Ds w) :
    TurnI b4 b3 b7 bs W1 { tmps := T, defers := ds } w := ⟨fun i => T.getD i undef, t, bt, Ds, ht, h3, h4, h6, h7, h8, h9, by rw [← hT, hd], hb, hB, hM⟩
/-- How many turns are left. -/
def turnsLeft (a : Act) (W : World) : Nat := 2 - (intOf ((match a.tmps.getD 9 undef with | .pointer (some p) => W.cell? p | _ => none).getD undef)).toNat
theorem turnsLeft_at {a : Act} {W : World} {bt t : Nat} (h : a.tmps.getD 9 undef = .pointer (some ⟨bt, 0, none⟩)) (k : Has W bt #[.int .i64 (t : Int)] 3) : turnsLeft a W = 2 - t := by
  unfold turnsLeft
  rw [h]
  simp only [k.one, Option.getD_some, intOf, Int.toNat_natCast]
/-- Between two rows: the first k are gone. -/
structure RoI (W3 : World) (bn C : Nat) (RL : List (List Dig)) (t : Nat) (many : Int) (rv : Value) (xs : List Value) (k : Nat) (W : World) : Prop where
  low : Below W3.heap.size W3 W
  dfr : W.heap[C - 2]? = some (.deferred (some []))
  own : W.ownsRow C 22 1 rv RL.length xs
  each : ∀ j, k ≤ j → j < RL.length → ∃ sv, xs[j]? = some sv ∧ OwnD C W sv (RL[j]?.getD [])
  apart : ∀ (i j : Nat) (u v : Value) (b : Nat), i < j → xs[i]? = some u → xs[j]? = some v → u.ownBlock = some b → v.ownBlock ≠ some b
  cnt : Has W bn #[.int .i64 (k : Int)] 3
  size : C ≤ W.heap.size
  blk : W3.heap.size ≤ bn ∧ bn + 2 < C
  brk : t = 0 → k = 0 ∨ (k : Int) < many
theorem RoI.ex {W3 W W' : World} {bn C t k : Nat} {many : Int} {RL : List (List Dig)} {rv : Value} {xs : List Value} (h : RoI W3 bn C RL t many rv xs k W) (e : Ex (C - 1) W W') : RoI W3 bn C RL t many rv xs k W' := by
  have hs := h.size
  have hb := h.blk
  have hf : Frm C W W' := (Frm.refl _ _).ex e (by omega)
  exact ⟨h.low.trans (e.low (by omega) h.low.size), (e.block _ (by omega) (by omega)).trans h.dfr, own_mid h.own hf, fun j h1 h2 => by obtain ⟨sv, x, y⟩ := h.each j h1 h2; exact ⟨sv, x, y.1, own_mid y.2 hf⟩, h.apart, h.cnt.ex e (by omega), Nat.le_trans hs e.size, h.blk, h.brk⟩
theorem RoI.next {W3 W5 W6 W7 W8 W9 : World} {bn C t k gk m ck : Nat} {many : Int} {RL : List (List Dig)} {rv : Value} {xs : List Value} {r : List Dig} (h : RoI W3 bn C RL t many rv xs k W5) (hB : Below W5.heap.size W5 W6) (hX : Ex gk W6 W7) (hY : Ex bn W7 W8) (hZ : Ex (C - 1) W8 W9)
    (hsv : xs[k]? = some (.slice (some ⟨gk, 0, none⟩) m ck)) (hod : OwnD C W6 (.slice (some ⟨gk, 0, none⟩) m ck) r) (hlow : Below W3.heap.size W3 W9) (hd : W9.heap[C - 2]? = some (.deferred (some []))) (hc : Has W9 bn #[.int .i64 (((k + 1 : Nat)) : Int)] 3) (hsz : C ≤ W9.heap.size) (hb : t = 0 → (((k + 1 : Nat)) : Int) < many) : RoI W3 bn C RL t many rv xs (k + 1) W9 := by
  have hblk := h.blk
  have hf : Frm C W7 W9 := ((Frm.refl _ _).ex hY (by omega)).ex hZ (by omega)
  have hgk : ∃ cur, Has W6 gk cur 30 := by
    rcases hod.2.2 with ⟨e, _⟩ | ⟨g1, cap1, cur1, e, _, hg1', _⟩
    · cases e
    · simp only [Value.slice.injEq, Option.some.injEq, Addr.mk.injEq, and_true] at e
      obtain ⟨rfl, _, _⟩ := e
      exact ⟨cur1, hg1'⟩
  obtain ⟨cur, hgk⟩ := hgk
  have ho6 := ownsRow_below h.own hB
  refine ⟨hlow, hd, own_mid (own_exNe ho6 hX (own_ne ho6 hgk (by decide))) hf, fun j h1 h2 => ?_, h.apart, hc, hsz, h.blk, fun e => .inr (hb e)⟩
  obtain ⟨sv, x, y⟩ := h.each j (by omega) h2
  have hne := h.apart k j _ sv gk (by omega) hsv x rfl
  have y7 := (y.below hB).exNe hX hne
  exact ⟨sv, x, y7.1, own_mid y7.2 hf⟩
/-- What a range leaves. -/
structure RoE (W3 : World) (bn C : Nat) (len t : Nat) (many : Int) (c : Nat) (W : World) : Prop where
  low : Below W3.heap.size W3 W
  dfr : W.heap[C - 2]? = some (.deferred (some []))
  cnt : Has W bn #[.int .i64 (c : Int)] 3
  size : C ≤ W.heap.size
  zero : t = 0 → (c : Int) = max 1 (min (len : Int) many)
  one : t = 1 → c = len
theorem RoE.ex {W3 W W' : World} {bn C len t c : Nat} {many : Int} (h : RoE W3 bn C len t many c W) (hb : W3.heap.size ≤ bn ∧ bn + 2 < C) (e : Ex (C - 1) W W') : RoE W3 bn C len t many c W' := by
  have hs := h.size
  exact ⟨h.low.trans (e.low (by omega) h.low.size), (e.block _ (by omega) (by omega)).trans h.dfr, h.cnt.ex e (by omega), Nat.le_trans hs e.size, h.zero, h.one⟩
set_option maxRecDepth 100000 in
set_option maxHeartbeats 4000000 in
theorem trows_ok (v : Value) (ds : List Dig) (many : Int) (w : World) (hv : Digs w v ds) (h0 : 0 < ds.length) (h16 : ds.length ≤ 16) (hg : Glob w) :
    Calls Tryd.prog 5 #[v, .int .i64 many] w fun e w' => e = .returned (.bool true) ∧ Below w.heap.size w w' := by
  have hgs := hg.size
  have hnew := fun W hv => tnew_any v ds W hv h0 h16
  have hrf := fun W hv hg => refrows_any v ds W hv h16 h0 hg
  have hseq := fun N l bt tb B W hT hb hg J Jx => rows1_any N l bt tb B ds W hT hb hg J Jx
  have hRat := rowsL_at _ (ds.map markL) (Nat.le_refl _) (by simpa using h0) (marks_all ds)
  have hRn : (rowsL (ds.map markL)).length ≤ 17 := rowsL_len 16 _ (by simpa using h16)
  have hR0 := (rootOf_spec (ds := ds) h0).2.2
  have hfn := func_ne
  simp only [List.length_map] at hRat
  obtain ⟨RL, hRL⟩ : ∃ RL, rowsL (ds.map markL) = RL := ⟨_, rfl⟩
  simp only [hRL] at hrf hseq hRat hRn hR0
  clear hRL
  obtain ⟨a0, c0, rfl⟩ := hv.slice
  obtain ⟨n, hn⟩ : ∃ n, ds.length = n := ⟨_, rfl⟩
  simp only [hn] at h16 h0 hv hnew hrf hRat ⊢
  have HN : Hid (ds.length = n) := hn
  clear hn
  have hdn1 : decide ((n : Int) < 1) = false := by simp; omega
  have hdn2 : decide (16 < (n : Int)) = false := by simp; omega
  refine (callsIn_wide (n := 10)).1 ?_
  refine callsIn_of_wp_marks Tryd.func5 rfl trivial ?_ rfl
  simp only [Tryd.ntmps5, List.size_toArray, List.length_cons, List.length_nil, Nat.reduceAdd, Nat.reduceSub, Array.replicate_succ, Array.replicate_zero, List.push_toArray, List.append_toArray, List.nil_append, List.cons_append]
  refine wpIn_wide.2 ?_
  go_upto_region 1 with (fail)
  refine named (p := Code.wp _ _ _ _) ?_
  intro W0 hW0
  have hz0 : w.heap.size + 2 ≤ W0.heap.size := by rw [hW0]; simp
  have hB0 : Below w.heap.size w W0 := by
    rw [hW0]
    repeat (first | exact Below.refl _ _ | refine Below.alloc ?_ (by simp <;> omega) _)
  have x3 : Has W0 w.heap.size #[.int .i64 many] 3 := by
    rw [hW0]; repeat (first | (refine has_new _ _ _ _ ?_; simp; done) | refine has_old ?_)
  have x4 : Has W0 (w.heap.size + 1) #[.bool false] 4 := by
    rw [hW0]; repeat (first | (refine has_new _ _ _ _ ?_; simp; done) | refine has_old ?_)
  clear hW0
  have hg0 := hg.below hB0 hg.size
  have hn0 := hnew W0 (hv.below hB0)
  clear hnew
  go_wp2_with fail
  refine hn0.mono ?_
  clear hn0
  rintro e Wa ⟨tb, rfl, hTa, hBa⟩
  have hBwa : Below w.heap.size w Wa := hB0.trans (hBa.mono hB0.size)
  have hr1 := hrf Wa (hv.below hBwa) (hg.below hBwa hg.size)
  clear hrf
  go_wp2_with fail
  refine hr1.mono ?_
  clear hr1
  rintro e Wb ⟨wv, xw, rfl, hRw, hBb⟩
  obtain ⟨gw, cw, sv0, hwv, _, _, _⟩ := hRw.at_ (j := 0) hR0
  subst hwv
  go_upto_region 7 with (go_at_call 19; refine (trows_any _ _ rfl _).mono ?_; rintro e w' ⟨rfl, hw⟩; obtain rfl := hw.symm)
  refine named (p := fun W => Code.wp _ _ _ _ W) ?_
  intro W1 hW1
  have hz1 : Wb.heap.size + 3 ≤ W1.heap.size := by rw [hW1]; simp
  have hBb1 : Below Wb.heap.size Wb W1 := by
    rw [hW1]
    repeat (first | exact Below.refl _ _ | refine Below.alloc ?_ (by simp <;> omega) _)
  have x7 : Has W1 Wb.heap.size #[.slice (some ⟨gw, 0, none⟩) RL.length cw] 45 := by
    rw [hW1]; repeat (first | (refine has_new _ _ _ _ ?_; simp; done) | refine has_old ?_)
  have xs : Has W1 (Wb.heap.size + 1) #[.pointer (some ⟨tb, 0, none⟩)] 24 := by
    rw [hW1]; repeat (first | (refine has_new _ _ _ _ ?_; simp; done) | refine has_old ?_)
  have xt : Has W1 (Wb.heap.size + 2) #[.int .i64 0] 3 := by
    rw [hW1]; repeat (first | (refine has_new _ _ _ _ ?_; simp; done) | refine has_old ?_)
  clear hW1
  have hBa1 : Below Wa.heap.size Wa W1 := hBb.trans (hBb1.mono hBb.size)
  have hB01 : Below W0.heap.size W0 W1 := hBa.trans (hBa1.mono hBa.size)
  have hB1 : Below w.heap.size w W1 := hB0.trans (hB01.mono hB0.size)
  have hT1 := hTa.below hBa1
  have hRw1 := hRw.below hBb1
  have x3 := x3.below hB01 x3.lt
  have x4 := x4.below hB01 x4.lt
  have hs1 := hB1.size
  have hCw : Wa.heap.size ≤ W1.heap.size := hBa1.size
  obtain ⟨zb, hzb⟩ : ∃ z, Wb.heap.size = z := ⟨_, rfl⟩
  rw [hzb] at hz1 x7 xs xt ⊢
  clear hzb hBb1 hBa1 hB01 hBa hBb hRw hTa hBwa hg0
  refine wp_loop (TurnI (w.heap.size + 1) w.heap.size zb (zb + 1) W1) turnsLeft ?_ ?_
  · exact TurnI.of 0 (zb + 2) [] (by omega) (by kernel_rfl) (by kernel_rfl) (by kernel_rfl) (by kernel_rfl) (by kernel_rfl) (by kernel_rfl) (by kernel_rfl) rfl xt (Below.refl _ _) (Mrk.nil _ _)
  · rintro a W3 ⟨f, t, bt, Ds, ht, h3, h4, h6, h7, h8, h9, rfl, hbt, hB13, hM⟩
    have hleft : turnsLeft { tmps := rowF f, defers := marksOf Ds } W3 = 2 - t := turnsLeft_at h9 hbt
    rw [hleft]
    clear hleft
    simp only [rowF, h3, h4, h6, h7, h8, h9]
    have hBw3 : Below w.heap.size w W3 := hB1.trans (hB13.mono hs1)
    have hg3 := hg.below hBw3 hg.size
    have hT3 := hT1.below hB13
    have hs13 := hB13.size
    have c9 := hbt.one
    have hbtl := hbt.lt
    by_cases hlt : t < 2
    · have hlt' : (t : Int) < 2 := by omega
      go_wp2_with fail
      refine (wpIn_wide (n := 10)).1 ?_
      refine named (p := Code.wpIn _ _ _ _ _ _) ?_
      intro W0' hW0'
      have hz : W0'.heap.size = W3.heap.size + 1 := by rw [hW0']; simp
      have hB30 : Below W3.heap.size W3 W0' := by
        rw [hW0']
        repeat (first | exact Below.refl _ _ | refine Below.alloc ?_ (by simp <;> omega) _)
      have xn : Has W0' W3.heap.size #[.int .i64 0] 3 := by
        rw [hW0']; repeat (first | (refine has_new _ _ _ _ ?_; simp; done) | refine has_old ?_)
      clear hW0' c9
      obtain ⟨z, hzz⟩ : ∃ z, W3.heap.size = z := ⟨_, rfl⟩
      rw [hzz] at hz xn hbtl ⊢
      try simp only [Nat.add_assoc, Nat.reduceAdd]
      have hz3 : W3.heap.size ≤ z := Nat.le_of_eq hzz
      have hz4 : W1.heap.size ≤ z := by omega
      clear hzz
      refine wp_range_leave (gf := 37) (lb := #[.pointer (some ⟨zb + 1, 0, none⟩)]) rfl (Go.Proofs.enters_of Tryd.func37 (by kernel_rfl) rfl)
        (fun W => ∃ c, RoE W3 z (z + 3) RL.length t many c W) (fun c W => c = .exit 2 ∧ ∃ c', RoE W3 z (z + 3) RL.length t many c' W) ?call ?done ?left
      case left =>
        rintro c Wd We ⟨rfl, c', hRd⟩ hE4 hs4
        refine wpIn_wide.2 ?_
        rw [hz] at hE4 ⊢
        have hRE := hRd.ex ⟨hz3, by omega⟩ hE4
        have hse := hRE.size
        have cbt := (hbt.below hRE.low hbt.lt).one
        have c3 := ((x3.below hB13 x3.lt).below hRE.low (by have := x3.lt; omega)).one
        have c7 := ((x7.below hB13 x7.lt).below hRE.low (by have := x7.lt; omega)).one
        have cn := hRE.cnt.one
        obtain ⟨rl, hrl⟩ : ∃ rl, RL.length = rl := ⟨_, rfl⟩
        rw [hrl] at c7
        have hzero := hRE.zero
        have hone := hRE.one
        rw [hrl] at hzero hone
        clear hseq hRat hE4 hs4 hRn hR0
        by_cases ht0 : t = 0
        · subst ht0
          have hc := hzero rfl
          clear hzero hone
          go_wp2_with fail
          all_goals
            have hX := (Below.refl We.heap.size We).alloc (Nat.le_refl _) (.cells #[.int .i64 1] 3)
            have hn9 := has_new We #[.int .i64 ((1 : Nat) : Int)] 3 We.heap.size rfl
            have hB3x := hRE.low.trans (hX.mono hRE.low.size)
            refine ⟨TurnI.of 1 We.heap.size ((z + 1) :: Ds) (by omega) (by kernel_rfl) (by kernel_rfl) (by kernel_rfl) (by kernel_rfl) (by kernel_rfl) (by kernel_rfl) (by kernel_rfl) rfl hn9 (hB13.trans (hB3x.mono hs13)) ((hM.below hB3x).cons (by omega) ((hX.block _ (by omega)).trans hRE.dfr) (fun E hE => by have := hM.lt hE; omega)), ?_⟩
            exact Nat.lt_of_le_of_lt (Nat.le_of_eq (turnsLeft_at (t := 1) (bt := We.heap.size) (by kernel_rfl) hn9)) (by omega)
        · obtain rfl : t = 1 := by omega
          obtain rfl := hone rfl
          clear hzero hone
          go_wp2_with fail
          all_goals
            have hX := (Below.refl We.heap.size We).alloc (Nat.le_refl _) (.cells #[.int .i64 2] 3)
            have hn9 := has_new We #[.int .i64 ((2 : Nat) : Int)] 3 We.heap.size rfl
            have hB3x := hRE.low.trans (hX.mono hRE.low.size)
            refine ⟨TurnI.of 2 We.heap.size ((z + 1) :: Ds) (by omega) (by kernel_rfl) (by kernel_rfl) (by kernel_rfl) (by kernel_rfl) (by kernel_rfl) (by kernel_rfl) (by kernel_rfl) rfl hn9 (hB13.trans (hB3x.mono hs13)) ((hM.below hB3x).cons (by omega) ((hX.block _ (by omega)).trans hRE.dfr) (fun E hE => by have := hM.lt hE; omega)), ?_⟩
            exact Nat.lt_of_le_of_lt (Nat.le_of_eq (turnsLeft_at (t := 2) (bt := We.heap.size) (by kernel_rfl) hn9)) (by omega)
      case call =>
        intro fn Wc hB0c hzc hDc hlc
        rw [hz] at hB0c hzc hDc hlc ⊢
        have hB3c : Below W3.heap.size W3 Wc := hB30.trans (hB0c.mono (by omega))
        have hCz : Wc.heap.size = z + 3 := by omega
        refine (hseq 9 (z + 1 + 1) (zb + 1) tb _ Wc (hT3.below hB3c) ((xs.below hB13 xs.lt).below hB3c (by have := xs.lt; omega)) (hg3.below hB3c hg3.size)
          (fun rv xs k W => W.heap[z + 1 + 1]? = Wc.heap[z + 1 + 1]? ∧ RoI W3 z (z + 3) RL t many rv xs k W) (fun W => ∃ c, Pend (z + 1 + 1) c W ∧ c = .exit 2 ∧ ∃ c', RoE W3 z (z + 3) RL.length t many c' W) ?_ ?_ ?_).mono ?_
        · intro rv xs W' hRw hB'
          rw [hCz] at hRw hB'
          exact ⟨hB'.block _ (by omega), hB3c.trans (hB'.mono (by omega)), (hB'.block _ (by omega)).trans hDc, hRw.own, fun j _ hj => hRw.each j hj, hRw.apart, (xn.below hB0c (by omega)).below hB' (by omega), hCz ▸ hB'.size, ⟨hz3, by omega⟩, fun _ => .inl rfl⟩
        · rintro rv xs k W' ⟨_, hI⟩
          rw [hCz]
          exact hI.own
        · rintro rv xs k sv W hsv ⟨hrec, hI⟩
          rw [hlc] at hrec ⊢
          refine (yield_in (R := fun W' => W'.heap[z + 1 + 1]? = W.heap[z + 1 + 1]? ∧ RoI W3 z (z + 3) RL t many rv xs (k + 1) W') (Rx := fun c W => c = .exit 2 ∧ ∃ c', RoE W3 z (z + 3) RL.length t many c' W) hrec rfl ?_).mono ?_
          · clear hrec hlc hseq hDc hB0c hzc hB3c hCz
            have hxl := hI.own.1
            have hkR : k < RL.length := by have := (List.getElem?_eq_some_iff.1 hsv).1; omega
            obtain ⟨r, hr⟩ : ∃ r, RL[k]? = some r := ⟨RL[k], List.getElem?_eq_getElem hkR⟩
            obtain ⟨a1, a2, _, _, _⟩ := hRat k r hr
            obtain ⟨sv', e1, e2⟩ := hI.each k (Nat.le_refl _) hkR
            obtain rfl : sv' = sv := Option.some.inj (e1.symm.trans hsv)
            rw [hr, Option.getD_some] at e2
            obtain ⟨gk, ck, rfl, hgC, _⟩ := e2.blk a1
            obtain ⟨m, hm⟩ : ∃ m, r.length = m := ⟨_, rfl⟩
            rw [hm] at a1 a2 hsv e1 e2 ⊢
            have HM : Hid (r.length = m) := hm
            clear hm hxl e1
            intro Rr RB hrr
            have HR : Hid (W.heap[z + 1 + 1]? = some Rr) := hrr
            clear hrr
            go_simp
            gi_wp2
            refine ⟨HR.out, ?_⟩
            intro W5 hE5 hs5 hl5
            have HL : Hid (W5.heap[z + 1 + 1]? = some RB) := hl5
            clear hl5
            have hI5 := hI.ex hE5
            have hod := e2.exNe hE5 (by intro e; simp only [Value.ownBlock, Option.some.injEq] at e; omega)
            clear e2 hI
            have hB15 : Below W1.heap.size W1 W5 := hB13.trans (hI5.low.mono hs13)
            have c7 := (x7.below hB15 x7.lt).one
            have cn := hI5.cnt.one
            obtain ⟨gw', cw', svw, ew, hcw, _, how⟩ := (hRw1.below hB15).at_ hkR
            simp only [Value.slice.injEq, Option.some.injEq, Addr.mk.injEq, true_and, and_true] at ew
            obtain ⟨rfl, rfl⟩ := ew
            rw [hr, Option.getD_some] at how
            obtain ⟨aw, nw, cw2, rfl⟩ : ∃ a n c, svw = Value.slice a n c := by obtain ⟨a, c, e⟩ := how.slice; exact ⟨a, _, c, e⟩
            have hs5 := hI5.size
            have hsame := same_yes _ _ r W5 (hod.digs (by omega)) (how.digs (by omega)) (by have := HM.out; omega)
            have hge : ¬ RL.length ≤ k := by omega
            have hk17 : k < 17 := by omega
            clear hr hRat hRn
            go_simp
            gi_step
            gi_step
            gi_step
            gi_step
            refine wpIn_round_region (by kernel_rfl) ?_
            go_wp2_with (go_at_call 15; refine hsame.mono ?_; clear hsame; rintro e W6 ⟨rfl, hB56⟩)
            refine ⟨rfl, ?_⟩
            gi_wp2
            have hB36 : Below W3.heap.size W3 W6 := hI5.low.trans (hB56.mono hI5.low.size)
            have hod6 := hod.below hB56
            have hs56 := hB56.size
            clear hod how hcw cn c7
            gi_loopw [12] (fun kv wr => ∃ (q : Nat) (P' : List Dig), q ≤ m ∧ kv = .int .i64 q ∧ P'.length = m ∧ OwnD (z + 3) wr (.slice (some ⟨gk, 0, none⟩) m ck) P' ∧ Ex gk W6 wr) (fun kv _ => m - (intOf kv).toNat)
            case atStart => exact ⟨0, r, Nat.zero_le _, rfl, HM.out, hod6, ⟨rfl, rfl, rfl, Nat.le_refl _, fun _ _ _ => rfl⟩⟩
            case round =>
              obtain ⟨q, P', hq, rfl, hPm, ho, hXq⟩ := hrel
              have HPm : Hid (P'.length = m) := hPm
              clear hPm
              by_cases hqm : q < m
              · have hkp : q < P'.length := by have := HPm.out; omega
                have hd32 := ho.1.at_ hkp
                obtain ⟨g', o', c', e', hrg, _⟩ := (ho.digs (by have := hXq.size; omega)).at_ hkp
                simp only [Value.slice.injEq, Option.some.injEq, Addr.mk.injEq, and_true] at e'
                obtain ⟨⟨rfl, rfl⟩, hx, rfl⟩ := e'
                clear hx
                obtain ⟨b0, hb0⟩ : ∃ b0, (P'[q]?.getD [])[0]?.getD 0 = b0 := ⟨_, rfl⟩
                have hc0 : wr.cell? ⟨gk, q * 32, none⟩ = some (.int .u8 (bv b0)) := by
                  have := hrg 0 (.int .u8 (bv b0)) (by rw [Array.getElem?_toList, byteCells_at _ 0 (by omega), hb0])
                  simpa using this
                have hset := ho.setFst q (b0 + 1) hkp
                have hfr : wr.frozen? ⟨gk, q * 32, none⟩ = false := by
                  rcases ho.2.2 with ⟨e, _⟩ | ⟨g1, cap1, cur1, e, _, hg1', _⟩
                  · cases e
                  · simp only [Value.slice.injEq, Option.some.injEq, Addr.mk.injEq, and_true] at e
                    obtain ⟨rfl, _, _⟩ := e
                    exact (show Has wr gk cur1 30 from hg1').free _
                clear hb0 hrg
                (first | refine wpIn_round_region (by kernel_rfl) ?_ | (gi_step; refine wpIn_round_region (by kernel_rfl) ?_) | (gi_step; gi_step; refine wpIn_round_region (by kernel_rfl) ?_) | (gi_step; gi_step; gi_step; refine wpIn_round_region (by kernel_rfl) ?_) | (gi_step; gi_step; gi_step; gi_step; refine wpIn_round_region (by kernel_rfl) ?_) | (gi_step; gi_step; gi_step; gi_step; gi_step; refine wpIn_round_region (by kernel_rfl) ?_) | (gi_step; gi_step; gi_step; gi_step; gi_step; gi_step; refine wpIn_round_region (by kernel_rfl) ?_) | (gi_step; gi_step; gi_step; gi_step; gi_step; gi_step; gi_step; refine wpIn_round_region (by kernel_rfl) ?_) | (gi_step; gi_step; gi_step; gi_step; gi_step; gi_step; gi_step; gi_step; refine wpIn_round_region (by kernel_rfl) ?_) | (gi_step; gi_step; gi_step; gi_step; gi_step; gi_step; gi_step; gi_step; gi_step; refine wpIn_round_region (by kernel_rfl) ?_))
                go_wp2_with fail
                refine ⟨rfl, ?_⟩
                gi_wp2
                refine wpIn_round_K (S := fun X => X.cell? ⟨gk, q * 32, none⟩ = some (.int .u8 (bv b0))) (fun i => decide (i < 10)) (by kernel_rfl) (by kernel_rfl) ?_
                refine K_take (i := 0) (v := .slice (some ⟨gk, 0, none⟩) m ck) rfl (by kernel_rfl) (by kernel_rfl) (by kernel_rfl) (by kernel_rfl) (by kernel_rfl) (by kernel_rfl) (fun w' hS => by go_simp) hc0 ?_
                refine K_take (i := 1) (v := .int .i64 ((q : Nat) : Int)) rfl (by kernel_rfl) (by kernel_rfl) (by kernel_rfl) (by kernel_rfl) (by kernel_rfl) (by kernel_rfl) (fun w' hS => by go_simp) hc0 ?_
                refine K_take (i := 2) (v := .slice (some ⟨gk, 0, none⟩) m ck) rfl (by kernel_rfl) (by kernel_rfl) (by kernel_rfl) (by kernel_rfl) (by kernel_rfl) (by kernel_rfl) (fun w' hS => by go_simp) hc0 ?_
                refine K_take (i := 3) (v := .int .i64 ((q : Nat) : Int)) rfl (by kernel_rfl) (by kernel_rfl) (by kernel_rfl) (by kernel_rfl) (by kernel_rfl) (by kernel_rfl) (fun w' hS => by go_simp) hc0 ?_
                refine K_take (i := 4) (v := .pointer (some ⟨gk, q * 32, none⟩)) rfl (by kernel_rfl) (by kernel_rfl) (by kernel_rfl) (by kernel_rfl) (by kernel_rfl) (by kernel_rfl) (fun w' hS => by go_simp) hc0 ?_
                refine K_take (i := 5) (v := .pointer (some ⟨gk, q * 32, none⟩)) rfl (by kernel_rfl) (by kernel_rfl) (by kernel_rfl) (by kernel_rfl) (by kernel_rfl) (by kernel_rfl) (fun w' hS => by go_simp) hc0 ?_
                refine K_take (i := 6) (v := .int .u8 (bv b0)) rfl (by kernel_rfl) (by kernel_rfl) (by kernel_rfl) (by kernel_rfl) (by kernel_rfl) (by kernel_rfl) (fun w' hS => by go_simp) hc0 ?_
                refine K_take (i := 7) (v := .int .u8 (bv (b0 + 1))) rfl (by kernel_rfl) (by kernel_rfl) (by kernel_rfl) (by kernel_rfl) (by kernel_rfl) (by kernel_rfl) (fun w' hS => by go_simp; exact wrap_byte b0) hc0 ?_
                refine K_take (i := 8) (v := .pointer (some ⟨gk, q * 32, none⟩)) rfl (by kernel_rfl) (by kernel_rfl) (by kernel_rfl) (by kernel_rfl) (by kernel_rfl) (by kernel_rfl) (fun w' hS => by go_simp) hc0 ?_
                refine K_take (i := 9) (v := .pointer (some ⟨gk, q * 32, none⟩)) rfl (by kernel_rfl) (by kernel_rfl) (by kernel_rfl) (by kernel_rfl) (by kernel_rfl) (by kernel_rfl) (fun w' hS => by go_simp) hc0 ?_
                refine K_next (i := 10) (by kernel_rfl) rfl (by kernel_rfl) (fun K hK => ?_)
                go_simp
                refine hK _ _ (fun h => absurd h (by decide)) (K_done (by kernel_rfl) ?_)
                clear hK
                refine named (p := fun X => Exit.inBlock 5 _ _ _ X) ?_
                intro W8 hW8
                have hX : Ex gk wr W8 := by rw [hW8]; first | exact Ex.set gk wr (q * 32) _ | exact (show Ex gk wr wr.drew from ⟨rfl, rfl, rfl, Nat.le_refl _, fun _ _ _ => rfl⟩).trans (Ex.set gk wr.drew (q * 32) _) | exact (Ex.set gk wr (q * 32) _).trans ⟨rfl, rfl, rfl, Nat.le_refl _, fun _ _ _ => rfl⟩
                have hset2 : OwnD (z + 3) W8 (.slice (some ⟨gk, 0, none⟩) m ck) (setFst P' q (b0 + 1)) := by rw [hW8]; first | exact hset | exact hset.below (Below.refl _ _).drew
                clear hW8 hset hc0 hfr
                (first | refine wpIn_round_region (by kernel_rfl) ?_ | (gi_step; refine wpIn_round_region (by kernel_rfl) ?_) | (gi_step; gi_step; refine wpIn_round_region (by kernel_rfl) ?_) | (gi_step; gi_step; gi_step; refine wpIn_round_region (by kernel_rfl) ?_) | (gi_step; gi_step; gi_step; gi_step; refine wpIn_round_region (by kernel_rfl) ?_) | (gi_step; gi_step; gi_step; gi_step; gi_step; refine wpIn_round_region (by kernel_rfl) ?_) | (gi_step; gi_step; gi_step; gi_step; gi_step; gi_step; refine wpIn_round_region (by kernel_rfl) ?_) | (gi_step; gi_step; gi_step; gi_step; gi_step; gi_step; gi_step; refine wpIn_round_region (by kernel_rfl) ?_) | (gi_step; gi_step; gi_step; gi_step; gi_step; gi_step; gi_step; gi_step; refine wpIn_round_region (by kernel_rfl) ?_) | (gi_step; gi_step; gi_step; gi_step; gi_step; gi_step; gi_step; gi_step; gi_step; refine wpIn_round_region (by kernel_rfl) ?_))
                go_wp2_with fail
                refine ⟨rfl, ?_⟩
                gi_wp2
                go_roundw
                case rel => exact ⟨q + 1, setFst P' q (b0 + 1), by omega, by go_num, by rw [setFst_len]; exact HPm.out, hset2, hXq.trans hX⟩
                case measure => simp [intOf]; omega
              · (first | refine wpIn_round_region (by kernel_rfl) ?_ | (gi_step; refine wpIn_round_region (by kernel_rfl) ?_) | (gi_step; gi_step; refine wpIn_round_region (by kernel_rfl) ?_) | (gi_step; gi_step; gi_step; refine wpIn_round_region (by kernel_rfl) ?_) | (gi_step; gi_step; gi_step; gi_step; refine wpIn_round_region (by kernel_rfl) ?_) | (gi_step; gi_step; gi_step; gi_step; gi_step; refine wpIn_round_region (by kernel_rfl) ?_) | (gi_step; gi_step; gi_step; gi_step; gi_step; gi_step; refine wpIn_round_region (by kernel_rfl) ?_) | (gi_step; gi_step; gi_step; gi_step; gi_step; gi_step; gi_step; refine wpIn_round_region (by kernel_rfl) ?_) | (gi_step; gi_step; gi_step; gi_step; gi_step; gi_step; gi_step; gi_step; refine wpIn_round_region (by kernel_rfl) ?_) | (gi_step; gi_step; gi_step; gi_step; gi_step; gi_step; gi_step; gi_step; gi_step; refine wpIn_round_region (by kernel_rfl) ?_))
                go_wp2_with fail
                refine ⟨rfl, ?_⟩
                have hcnt := (hI5.cnt.below hB56 (by have := hI5.cnt.lt; omega)).ex hXq (by omega)
                have hxs := hXq.size
                have cn := hcnt.one
                have fn := hcnt.free 0
                clear hqm hq ho HPm
                (first | refine wpIn_round_region (by kernel_rfl) ?_ | (gi_step; refine wpIn_round_region (by kernel_rfl) ?_) | (gi_step; gi_step; refine wpIn_round_region (by kernel_rfl) ?_) | (gi_step; gi_step; gi_step; refine wpIn_round_region (by kernel_rfl) ?_) | (gi_step; gi_step; gi_step; gi_step; refine wpIn_round_region (by kernel_rfl) ?_) | (gi_step; gi_step; gi_step; gi_step; gi_step; refine wpIn_round_region (by kernel_rfl) ?_) | (gi_step; gi_step; gi_step; gi_step; gi_step; gi_step; refine wpIn_round_region (by kernel_rfl) ?_) | (gi_step; gi_step; gi_step; gi_step; gi_step; gi_step; gi_step; refine wpIn_round_region (by kernel_rfl) ?_) | (gi_step; gi_step; gi_step; gi_step; gi_step; gi_step; gi_step; gi_step; refine wpIn_round_region (by kernel_rfl) ?_) | (gi_step; gi_step; gi_step; gi_step; gi_step; gi_step; gi_step; gi_step; gi_step; refine wpIn_round_region (by kernel_rfl) ?_))
                go_wp2_with fail
                refine ⟨rfl, ?_⟩
                refine named (p := fun X => Exit.then _ _ _ _ X) ?_
                intro W8 hW8
                have hX8 : Ex z wr W8 := by rw [hW8]; exact Ex.set _ _ _ _
                have hcnt8 : Has W8 z #[.int .i64 (((k + 1 : Nat)) : Int)] 3 := by rw [hW8]; exact hcnt.set 0 (.int .i64 ((k : Int) + 1))
                clear hW8 cn fn
                have h38 : Below W3.heap.size W3 W8 := (hB36.trans (hXq.low (by omega) hB36.size)).trans (hX8.low (by omega) (by have := hB36.size; omega))
                have cbt := (hbt.below h38 hbt.lt).one
                have c3 := ((x3.below hB13 x3.lt).below h38 (by have := x3.lt; omega)).one
                have cn8 := hcnt8.one
                have HL8 : Hid (W8.heap[z + 1 + 1]? = some RB) := (hX8.block _ (by omega) (by omega)).trans ((hXq.block _ (by omega) (by omega)).trans ((hB56.block _ (by omega)).trans HL.out))
                have hEn : ∀ W6', Ex (z + 1 + 1) W8 W6' → Below W3.heap.size W3 W6' ∧ W6'.heap[z + 1]? = some (.deferred (some [])) ∧ Has W6' z #[.int .i64 (((k + 1 : Nat)) : Int)] 3 ∧ z + 3 ≤ W6'.heap.size := fun W6' hE => by
                  have hs8 := hX8.size
                  have hs6 := hE.size
                  exact ⟨h38.trans (hE.low (by omega) h38.size), (hE.block _ (by omega) (by omega)).trans ((hX8.block _ (by omega) (by omega)).trans ((hXq.block _ (by omega) (by omega)).trans ((hB56.block _ (by omega)).trans hI5.dfr))), hcnt8.ex hE (by omega), by omega⟩
                by_cases ht0 : t = 0
                · subst ht0
                  have hbrk := hI5.brk rfl
                  by_cases hmy : many ≤ (k : Int) + 1
                  · (first | refine wpIn_round_region (by kernel_rfl) ?_ | (gi_step; refine wpIn_round_region (by kernel_rfl) ?_) | (gi_step; gi_step; refine wpIn_round_region (by kernel_rfl) ?_) | (gi_step; gi_step; gi_step; refine wpIn_round_region (by kernel_rfl) ?_) | (gi_step; gi_step; gi_step; gi_step; refine wpIn_round_region (by kernel_rfl) ?_) | (gi_step; gi_step; gi_step; gi_step; gi_step; refine wpIn_round_region (by kernel_rfl) ?_) | (gi_step; gi_step; gi_step; gi_step; gi_step; gi_step; refine wpIn_round_region (by kernel_rfl) ?_) | (gi_step; gi_step; gi_step; gi_step; gi_step; gi_step; gi_step; refine wpIn_round_region (by kernel_rfl) ?_) | (gi_step; gi_step; gi_step; gi_step; gi_step; gi_step; gi_step; gi_step; refine wpIn_round_region (by kernel_rfl) ?_) | (gi_step; gi_step; gi_step; gi_step; gi_step; gi_step; gi_step; gi_step; gi_step; refine wpIn_round_region (by kernel_rfl) ?_))
                    go_wp2_with fail
                    refine ⟨rfl, ?_⟩
                    gi_wp2
                    refine ⟨HL8.out, fun W6' hE6 hs6 => ⟨rfl, k + 1, ?_⟩⟩
                    obtain ⟨u1, u2, u3, u4⟩ := hEn W6' hE6
                    exact ⟨u1, u2, u3, u4, fun _ => by omega, fun h => by omega⟩
                  · (first | refine wpIn_round_region (by kernel_rfl) ?_ | (gi_step; refine wpIn_round_region (by kernel_rfl) ?_) | (gi_step; gi_step; refine wpIn_round_region (by kernel_rfl) ?_) | (gi_step; gi_step; gi_step; refine wpIn_round_region (by kernel_rfl) ?_) | (gi_step; gi_step; gi_step; gi_step; refine wpIn_round_region (by kernel_rfl) ?_) | (gi_step; gi_step; gi_step; gi_step; gi_step; refine wpIn_round_region (by kernel_rfl) ?_) | (gi_step; gi_step; gi_step; gi_step; gi_step; gi_step; refine wpIn_round_region (by kernel_rfl) ?_) | (gi_step; gi_step; gi_step; gi_step; gi_step; gi_step; gi_step; refine wpIn_round_region (by kernel_rfl) ?_) | (gi_step; gi_step; gi_step; gi_step; gi_step; gi_step; gi_step; gi_step; refine wpIn_round_region (by kernel_rfl) ?_) | (gi_step; gi_step; gi_step; gi_step; gi_step; gi_step; gi_step; gi_step; gi_step; refine wpIn_round_region (by kernel_rfl) ?_))
                    go_wp2_with fail
                    refine ⟨rfl, ?_⟩
                    gi_wp2
                    refine ⟨HL8.out, fun W6' hE6 hs6 hl6 => ⟨hl6.trans HR.out.symm, ?_⟩⟩
                    obtain ⟨u1, u2, u3, u4⟩ := hEn W6' hE6
                    exact hI5.next hB56 hXq hX8 hE6 hsv hod6 u1 u2 u3 u4 (fun _ => by omega)
                · (first | refine wpIn_round_region (by kernel_rfl) ?_ | (gi_step; refine wpIn_round_region (by kernel_rfl) ?_) | (gi_step; gi_step; refine wpIn_round_region (by kernel_rfl) ?_) | (gi_step; gi_step; gi_step; refine wpIn_round_region (by kernel_rfl) ?_) | (gi_step; gi_step; gi_step; gi_step; refine wpIn_round_region (by kernel_rfl) ?_) | (gi_step; gi_step; gi_step; gi_step; gi_step; refine wpIn_round_region (by kernel_rfl) ?_) | (gi_step; gi_step; gi_step; gi_step; gi_step; gi_step; refine wpIn_round_region (by kernel_rfl) ?_) | (gi_step; gi_step; gi_step; gi_step; gi_step; gi_step; gi_step; refine wpIn_round_region (by kernel_rfl) ?_) | (gi_step; gi_step; gi_step; gi_step; gi_step; gi_step; gi_step; gi_step; refine wpIn_round_region (by kernel_rfl) ?_) | (gi_step; gi_step; gi_step; gi_step; gi_step; gi_step; gi_step; gi_step; gi_step; refine wpIn_round_region (by kernel_rfl) ?_))
                  go_wp2_with fail
                  refine ⟨rfl, ?_⟩
                  gi_wp2
                  refine ⟨HL8.out, fun W6' hE6 hs6 hl6 => ⟨hl6.trans HR.out.symm, ?_⟩⟩
                  obtain ⟨u1, u2, u3, u4⟩ := hEn W6' hE6
                  exact hI5.next hB56 hXq hX8 hE6 hsv hod6 u1 u2 u3 u4 (fun e => absurd e ht0)
          · rintro e W' (⟨rfl, h1, h2⟩ | ⟨rfl, c, h1, h2⟩)
            · exact .inl ⟨rfl, h1.trans hrec, h2⟩
            · exact .inr ⟨rfl, c, h1, h2⟩
        · rintro e Wx ⟨rfl, ⟨rv, xs, hrec, hI⟩ | hx⟩
          · exact ⟨⟨_, rfl⟩, .inl ⟨hrec, RL.length, hI.low, hI.dfr, hI.cnt, hI.size, fun h => by have := hI.brk h; omega, fun _ => rfl⟩⟩
          · exact ⟨⟨_, rfl⟩, .inr hx⟩
      case done =>
        rintro Wd We ⟨c, hRd⟩ hE4 hs4
        rw [hz] at hE4 ⊢
        have hRE := hRd.ex ⟨hz3, by omega⟩ hE4
        have hse := hRE.size
        have cbt := (hbt.below hRE.low hbt.lt).one
        have c3 := ((x3.below hB13 x3.lt).below hRE.low (by have := x3.lt; omega)).one
        have c7 := ((x7.below hB13 x7.lt).below hRE.low (by have := x7.lt; omega)).one
        have cn := hRE.cnt.one
        obtain ⟨rl, hrl⟩ : ∃ rl, RL.length = rl := ⟨_, rfl⟩
        rw [hrl] at c7
        have hzero := hRE.zero
        have hone := hRE.one
        rw [hrl] at hzero hone
        clear hseq hRat hE4 hs4 hRn hR0
        by_cases ht0 : t = 0
        · subst ht0
          have hc := hzero rfl
          clear hzero hone
          go_wp2_with fail
          all_goals
            have hX := (Below.refl We.heap.size We).alloc (Nat.le_refl _) (.cells #[.int .i64 1] 3)
            have hn9 := has_new We #[.int .i64 ((1 : Nat) : Int)] 3 We.heap.size rfl
            have hB3x := hRE.low.trans (hX.mono hRE.low.size)
            refine ⟨TurnI.of 1 We.heap.size ((z + 1) :: Ds) (by omega) (by kernel_rfl) (by kernel_rfl) (by kernel_rfl) (by kernel_rfl) (by kernel_rfl) (by kernel_rfl) (by kernel_rfl) rfl hn9 (hB13.trans (hB3x.mono hs13)) ((hM.below hB3x).cons (by omega) ((hX.block _ (by omega)).trans hRE.dfr) (fun E hE => by have := hM.lt hE; omega)), ?_⟩
            exact Nat.lt_of_le_of_lt (Nat.le_of_eq (turnsLeft_at (t := 1) (bt := We.heap.size) (by kernel_rfl) hn9)) (by omega)
        · obtain rfl : t = 1 := by omega
          obtain rfl := hone rfl
          clear hzero hone
          go_wp2_with fail
          all_goals
            have hX := (Below.refl We.heap.size We).alloc (Nat.le_refl _) (.cells #[.int .i64 2] 3)
            have hn9 := has_new We #[.int .i64 ((2 : Nat) : Int)] 3 We.heap.size rfl
            have hB3x := hRE.low.trans (hX.mono hRE.low.size)
            refine ⟨TurnI.of 2 We.heap.size ((z + 1) :: Ds) (by omega) (by kernel_rfl) (by kernel_rfl) (by kernel_rfl) (by kernel_rfl) (by kernel_rfl) (by kernel_rfl) (by kernel_rfl) rfl hn9 (hB13.trans (hB3x.mono hs13)) ((hM.below hB3x).cons (by omega) ((hX.block _ (by omega)).trans hRE.dfr) (fun E hE => by have := hM.lt hE; omega)), ?_⟩
            exact Nat.lt_of_le_of_lt (Nat.le_of_eq (turnsLeft_at (t := 2) (bt := We.heap.size) (by kernel_rfl) hn9)) (by omega)
    · obtain rfl : t = 2 := by omega
      have hwk := works_any W3 hg3
      have x4e := x4.below hB13 x4.lt
      go_wp2_with (first
        | (go_at_call 20; refine (num_any _ _).mono ?_; rintro e w' ⟨rfl, hw⟩; obtain rfl := hw.symm)
        | (go_at_call 13; refine hwk.mono ?_; clear hwk; rintro e W4 ⟨rfl, hB4⟩; have x5 := x4e.below hB4 x4e.lt; have x5c := x5.one; have x5f := x5.free 0))
      have hX := Ex.set (w.heap.size + 1) W4 0 (.bool true)
      have x6 := x5.set 0 (.bool true)
      have hB34 := hBw3.trans (hB4.mono hBw3.size)
      have hs14 : W1.heap.size ≤ W4.heap.size := by have := hB4.size; omega
      have hl4 := x4.lt
      have hM4 : Mrk W1.heap.size Ds (W4.setCell ⟨w.heap.size + 1, 0, none⟩ (.bool true)) := (hM.below hB4).keep fun D hD hDl _ => hX.block D hDl (by omega)
      refine leaves_marks Ds _ hM4 fun w' hB' hs' => ?_
      exact ⟨_, results_bool rfl _ _ (w.heap.size + 1) true rfl ((hB'.block _ hl4).trans x6), rfl, (hB34.trans (hX.low (by omega) hB34.size)).trans (hB'.mono hs1)⟩
set_option maxRecDepth 100000 in
set_option maxHeartbeats 1000000 in
theorem trows_walk (v : Value) (ds : List Dig) (many : Int) (w : World) (hv : Digs w v ds) (hg : Glob w) :
    Calls Tryd.prog 5 #[v, .int .i64 many] w fun e w' => e = .returned (.bool true) ∧ Below w.heap.size w w' := by
  by_cases hok : 1 ≤ ds.length ∧ ds.length ≤ 16
  · exact trows_ok v ds many w hv hok.1 hok.2 hg
  · obtain ⟨a0, c0, rfl⟩ := hv.slice
    obtain ⟨n, hn⟩ : ∃ n, ds.length = n := ⟨_, rfl⟩
    rw [hn] at hok ⊢
    clear hn hv
    refine (callsIn_wide (n := 10)).1 ?_
    refine callsIn_of_wp_marks Tryd.func5 rfl trivial ?_ rfl
    simp only [Tryd.ntmps5, List.size_toArray, List.length_cons, List.length_nil, Nat.reduceAdd, Nat.reduceSub, Array.replicate_succ, Array.replicate_zero, List.push_toArray, List.append_toArray, List.nil_append, List.cons_append]
    refine wpIn_wide.2 ?_
    go_upto_region 1 with (fail)
    refine named (p := Code.wp _ _ _ _) ?_
    intro W0 hW0
    have hB0 : Below w.heap.size w W0 := by
      rw [hW0]
      repeat (first | exact Below.refl _ _ | refine Below.alloc ?_ (by simp <;> omega) _)
    have x0 : Has W0 (w.heap.size + 1) #[.bool false] 4 := by
      rw [hW0]; repeat (first | (refine has_new _ _ _ _ ?_; simp; done) | refine has_old ?_)
    clear hW0
    have hwk := works_any W0 (hg.below hB0 hg.size)
    by_cases h1 : n < 1
    · have q1 : decide ((n : Int) < 1) = true := by simp; omega
      clear hok h1
      go_wp2_with (go_at_call 13; refine hwk.mono ?_; clear hwk; rintro e W4 ⟨rfl, hB4⟩; have x4 := x0.below hB4 x0.lt; have x4c := x4.one; have x4f := x4.free 0)
      have hB := hB0.trans (hB4.mono hB0.size)
      exact ⟨_, results_bool rfl _ _ (w.heap.size + 1) true rfl (x4.set 0 (.bool true)), rfl, hB.trans ((Ex.set _ _ _ _).low (by omega) hB.size)⟩
    · have q1 : decide ((n : Int) < 1) = false := by simp; omega
      have q2 : decide (16 < (n : Int)) = true := by simp; omega
      clear hok h1
      go_wp2_with (go_at_call 13; refine hwk.mono ?_; clear hwk; rintro e W4 ⟨rfl, hB4⟩; have x4 := x0.below hB4 x0.lt; have x4c := x4.one; have x4f := x4.free 0)
      have hB := hB0.trans (hB4.mono hB0.size)
      exact ⟨_, results_bool rfl _ _ (w.heap.size + 1) true rfl (x4.set 0 (.bool true)), rfl, hB.trans ((Ex.set _ _ _ _).low (by omega) hB.size)⟩
end Go.Proofs.YtcmkjgodgocdfaaDoor
