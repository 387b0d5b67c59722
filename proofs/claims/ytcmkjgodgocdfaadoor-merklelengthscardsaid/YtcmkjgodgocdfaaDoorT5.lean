/- merkle's Path. -/
import Derived.Test.YtcmkjgodgocdfaaDoorT4
import Derived.Test.YtcmkjgodgocdfaaDoorM3
import Derived.Test.YtcmkjgodgocdfaaDoorR6
import Derived.WalkMore
namespace Go.Proofs.YtcmkjgodgocdfaaDoor
open Go.RowKit
attribute [local go_sem] Oper.semAt_some

/-- Between two rounds of Path: C is where the rows' memory begins. -/
structure PaI (w : World) (C : Nat) (R : List (List Dig)) (P : List Dig) (rv : Value) (xs : List Value) (k : Nat) (W : World) : Prop where
  low : Below w.heap.size w W
  dfr : W.heap[w.heap.size + 3]? = some (.deferred (some []))
  hC : C = w.heap.size + 5
  more : k < R.length
  run : ∃ W' v p i', RowsAt C C W' rv R xs ∧ Frm C W' W ∧ C ≤ W'.heap.size ∧ Has W w.heap.size #[.int .i64 ((i' : Nat) : Int)] 3 ∧ Has W (w.heap.size + 1) #[v] 22 ∧ OwnD W'.heap.size W v p ∧ Hid (p ++ pathUp (R.drop k) i' = P) ∧ i' < (R[k]?.getD []).length ∧ p.length ≤ k
theorem PaI.ex {w W W2 : World} {C : Nat} {R : List (List Dig)} {P : List Dig} {rv : Value} {xs : List Value} {k : Nat} (h : PaI w C R P rv xs k W) (e : Ex (w.heap.size + 4) W W2) : PaI w C R P rv xs k W2 := by
  obtain ⟨W', v, p, i', h1, h2, h3, h4, h5, h6, h7⟩ := h.run
  have hC := h.hC
  have hs := h2.size
  exact ⟨h.low.trans (e.low (by omega) (by omega)), (e.block _ (by omega) (by omega)).trans h.dfr, h.hC, h.more, W', v, p, i', h1, h2.ex e (by omega), h3, h4.ex e (by omega), h5.ex e (by omega), h6.ex e (by omega), h7⟩

set_option maxRecDepth 100000 in
set_option maxHeartbeats 4000000 in
theorem path_ok {B tb : Nat} {ds : List Dig} {w : World} (h : TreeAt B w tb ds) (hg : Glob w) (i : Nat) (hi : i < ds.length) :
    Calls Tryd.prog 18 #[.pointer (some ⟨tb, 0, none⟩), .int .i64 (i : Int)] w fun e w' => ∃ v, e = .returned (.tuple #[v, .int .i64 0]) ∧ OwnD w.heap.size w' v (pathOf ds i) ∧ Below w.heap.size w w' := by
  have hgs := hg.size
  have hB1 := (Below.refl w.heap.size w).alloc (Nat.le_refl _) (.cells #[.int .i64 (i : Int)] 3)
  have ha := asked_any (h.below hB1) (i : Int)
  rw [show thereB (i : Int) ds.length = true by simp [thereB]; omega, if_pos rfl] at ha
  have hd0 := h.1
  have hd16 := h.2.1
  have hR17 : (rowsL (ds.map markL)).length ≤ 17 := rowsL_len 16 _ (by simpa using hd16)
  have hR0 := (rootOf_spec hd0).2.2
  have hRat := rowsL_at _ (ds.map markL) (Nat.le_refl _) (by simpa using hd0) (marks_all ds)
  have hRfst : (rowsL (ds.map markL))[0]? = some (ds.map markL) := by
    by_cases hh : 1 < (ds.map markL).length
    · rw [rowsL_more hh]; rfl
    · rw [rowsL_last hh]; rfl
  have hseq := fun N l bt W hT hb hg J Jx => rows1_any N l bt tb B ds W hT hb hg J Jx
  unfold pathOf
  obtain ⟨R, hR⟩ : ∃ R, rowsL (ds.map markL) = R := ⟨_, rfl⟩
  rw [hR] at hR17 hR0 hRat hRfst ⊢
  simp only [hR] at hseq
  refine (callsIn_wide (n := 10)).1 ?_
  refine callsIn_of_wp_marks Tryd.func18 rfl trivial ?_ rfl
  simp only [Tryd.ntmps18, List.size_toArray, List.length_cons, List.length_nil, Nat.reduceAdd, Nat.reduceSub, Array.replicate_succ, Array.replicate_zero, List.push_toArray, List.append_toArray, List.nil_append, List.cons_append]
  refine wpIn_wide.2 ?_
  go_wp2_with fail
  go_step3
  go_wp2_with (go_at_call 34; refine ha.mono ?_; rintro e w' ⟨rfl, hw⟩; obtain rfl := hw.symm)
  go_step3
  go_wp2_with (go_at_call 19; refine (trows_any _ _ rfl _).mono ?_; rintro e w' ⟨rfl, hw⟩; obtain rfl := hw.symm)
  refine (wpIn_wide (n := 10)).1 ?_
  refine named (p := Code.wpIn _ _ _ _ _ _) ?_
  intro W0 hW0
  have hz : W0.heap.size = w.heap.size + 3 := by rw [hW0]; simp
  have hB : Below w.heap.size w W0 := by
    rw [hW0]
    repeat (first | exact Below.refl _ _ | refine Below.alloc ?_ (by simp <;> omega) _)
  have x0 : Has W0 w.heap.size #[.int .i64 (i : Int)] 3 := by
    rw [hW0]; repeat (first | (refine has_new _ _ _ _ ?_; simp; done) | refine has_old ?_)
  have x1 : Has W0 (w.heap.size + 1) #[.slice none 0 0] 22 := by
    rw [hW0]; repeat (first | (refine has_new _ _ _ _ ?_; simp; done) | refine has_old ?_)
  have x2 : Has W0 (w.heap.size + 2) #[.pointer (some ⟨tb, 0, none⟩)] 24 := by
    rw [hW0]; repeat (first | (refine has_new _ _ _ _ ?_; simp; done) | refine has_old ?_)
  clear hW0 ha
  simp only [Nat.add_assoc, Nat.reduceAdd]
  refine wp_range_leave (gf := 37) (lb := #[.pointer (some ⟨w.heap.size + 2, 0, none⟩)]) rfl (Go.Proofs.enters_of Tryd.func37 (by kernel_rfl) rfl)
    (fun _ => False) (fun c W3 => c = .exit 0 ∧ Below w.heap.size w W3 ∧ W3.heap[w.heap.size + 3]? = some (.deferred (some [])) ∧ w.heap.size + 5 ≤ W3.heap.size ∧ ∃ v, Has W3 (w.heap.size + 1) #[v] 22 ∧ OwnD (w.heap.size + 5) W3 v (pathUp R i)) ?call ?done ?left
  case done => intro W3 W4 h; exact h.elim
  case left =>
    rintro c W3 W4 ⟨rfl, h1, h2, h3, v, h4, h5⟩ hE4 hs4
    rw [hz] at hE4
    have c4 := (h4.ex hE4 (by omega)).one
    have hK : W4.heap[w.heap.size + 3]? = some (.deferred (some [])) := (hE4.block _ (by omega) (by omega)).trans h2
    have h5' := h5.ex hE4 (by omega)
    obtain ⟨av, nv, cv, rfl⟩ : ∃ a n c, v = Value.slice a n c := by obtain ⟨a, c, e⟩ := h5.slice; exact ⟨a, _, c, e⟩
    refine wpIn_wide.2 ?_
    go_wp2
    rw [Exit.noGoto_ret, hz]
    refine ⟨by simp, .inl ⟨_, _, rfl, run_takeDeferred hK, ?_⟩⟩
    refine ⟨_, results_tmp2 rfl _ _ _, _, rfl, ?_, ?_⟩
    · exact (h5'.ex (putObj_ex (w.heap.size + 3) W4 _) (by omega)).mono (by omega)
    · exact (h1.trans (hE4.low (by omega) (by omega))).trans ((putObj_ex (w.heap.size + 3) W4 _).low (by omega) (by omega))
  case call =>
    intro fn W1 hB0 hz1 hD1 hl1
    rw [hz] at hB0 hz1 hD1 hl1 ⊢
    have hBw1 : Below w.heap.size w W1 := hB.trans (hB0.mono (by omega))
    have hT1 : TreeAt B W1 tb ds := h.below hBw1
    have hW1s : W1.heap.size = w.heap.size + 5 := by omega
    refine (hseq 9 (w.heap.size + 3 + 1) (w.heap.size + 2) W1 hT1 (x2.below hB0 (by omega)) (hg.below hBw1 hg.size)
      (fun rv xs k W => W.heap[w.heap.size + 3 + 1]? = W1.heap[w.heap.size + 3 + 1]? ∧ PaI w W1.heap.size R (pathUp R i) rv xs k W)
      (fun W3 => ∃ c, Pend (w.heap.size + 3 + 1) c W3 ∧ c = .exit 0 ∧ Below w.heap.size w W3 ∧ W3.heap[w.heap.size + 3]? = some (.deferred (some [])) ∧ w.heap.size + 5 ≤ W3.heap.size ∧ ∃ v, Has W3 (w.heap.size + 1) #[v] 22 ∧ OwnD (w.heap.size + 5) W3 v (pathUp R i))
      ?_ ?_ ?_).mono ?_
    · intro rv xs W' hRw hB'
      refine ⟨hB'.block _ (by omega), hBw1.trans (hB'.mono (by omega)), (hB'.block _ (by omega)).trans hD1, hW1s, hR0, W', .slice none 0 0, [], i, hRw, Frm.refl _ _, hB'.size, (x0.below hB0 (by omega)).below hB' (by omega), (x1.below hB0 (by omega)).below hB' (by omega), OwnD.nil _ _, rfl, ?_, Nat.le_refl _⟩
      rw [hRfst]; simpa using hi
    · rintro rv xs k W' ⟨_, hI⟩
      obtain ⟨W'', v, p, i', h1, h2, _⟩ := hI.run
      exact own_mid h1.own h2
    · rintro rv xs k sv W hsv ⟨hrec, hI⟩
      rw [hl1] at hrec ⊢
      refine (yield_in (R := fun W' => W'.heap[w.heap.size + 3 + 1]? = W.heap[w.heap.size + 3 + 1]? ∧ PaI w W1.heap.size R (pathUp R i) rv xs (k + 1) W')
        (Rx := fun c W3 => c = .exit 0 ∧ Below w.heap.size w W3 ∧ W3.heap[w.heap.size + 3]? = some (.deferred (some [])) ∧ w.heap.size + 5 ≤ W3.heap.size ∧ ∃ v, Has W3 (w.heap.size + 1) #[v] 22 ∧ OwnD (w.heap.size + 5) W3 v (pathUp R i)) hrec rfl ?_).mono ?_
      · clear hrec hl1 hseq hD1 hB0 hz1 x0 x1 x2
        intro RR RB hrr
        have HR : Hid (W.heap[w.heap.size + 3 + 1]? = some RR) := hrr
        clear hrr
        gi_wp2
        refine ⟨HR.out, ?_⟩
        intro W5 hE5 hs5 hl5
        have HL : Hid (W5.heap[w.heap.size + 3 + 1]? = some RB) := hl5
        clear hl5
        have hI5 := hI.ex hE5
        clear hI
        have hkR := hI5.more
        obtain ⟨W', v, p, i', hRw, hM, hC5, hbi, hbp, hop, hpp, hi', hpk⟩ := hI5.run
        obtain ⟨r, hr⟩ : ∃ r, R[k]? = some r := ⟨R[k], List.getElem?_eq_getElem hkR⟩
        obtain ⟨a1, a2, a3, a4, a5⟩ := hRat k r hr
        rw [hr, Option.getD_some] at hi'
        obtain ⟨sv', hsv', hod⟩ := (hRw.mid hM).each k hkR
        obtain rfl : sv' = sv := Option.some.inj (hsv'.symm.trans hsv)
        rw [hr, Option.getD_some] at hod
        have hr16 : r.length ≤ 16 := by simp at a2; omega
        have hs5' : w.heap.size + 5 ≤ W5.heap.size := by have := hM.size; omega
        have hdg := hod.digs (by omega)
        obtain ⟨g2, o2, c2, rfl, _, hg2⟩ := hdg.at_ a1
        have cbp := hbp.one
        have cbi := hbi.one
        have fbi := hbi.free 0
        have fbp := hbp.free 0
        obtain ⟨av, nv, cv, rfl⟩ : ∃ a n c, v = Value.slice a n c := by obtain ⟨a, c, e⟩ := hop.slice; exact ⟨a, _, c, e⟩
        by_cases h1r : 1 < r.length
        · have hk1 := a4 h1r
          have hk2 : k + 1 < R.length := (List.getElem?_eq_some_iff.1 hk1).1
          have hal := aboveL_len _ r (Nat.le_refl _)
          have hpd := pathUp_drop hr hk2 i'
          have hoth : oth i' < 64 := by unfold oth; split <;> omega
          obtain ⟨rl, hrl⟩ : ∃ rl, r.length = rl := ⟨_, rfl⟩
          have e1 : ¬ (rl : Int) = 1 := by omega
          have hnext : i' / 2 < (R[k + 1]?.getD []).length := by rw [hk1, Option.getD_some]; omega
          have HN : Hid (i' / 2 < (R[k + 1]?.getD []).length) := hnext
          have Hal : Hid ((aboveL r).length = (r.length + 1) / 2) := hal
          clear hnext hal hk1 a4 a5
          rw [hrl] at hi' hr16 h1r ⊢
          by_cases ho : oth i' < rl
          · have ht : thereB (oth i' : Int) (rl : Int) = true := by simp [thereB]; omega
            rw [hrl, if_pos ho] at hpd
            have hd := a3.at_ (show oth i' < r.length by omega)
            obtain ⟨g3, o3, c3, e3, hrg, _⟩ := hdg.at_ (show oth i' < r.length by omega)
            simp only [Value.slice.injEq, Option.some.injEq, Addr.mk.injEq, true_and, and_true] at e3
            obtain ⟨⟨rfl, rfl⟩, rfl⟩ := e3
            obtain ⟨d, hdd⟩ : ∃ d, r[oth i']?.getD [] = d := ⟨_, rfl⟩
            rw [hdd] at hd hrg hpd
            have HP : Hid ((p ++ [d]) ++ pathUp (R.drop (k + 1)) (i' / 2) = pathUp R i) := by have := hpp.out; rw [hpd] at this; show _ = _; rw [List.append_assoc]; exact this
            clear hpp hpd hr hsv hsv' hdd
            have Hrl : Hid (r.length = rl) := hrl
            clear hrl
            gi_wp2_with (first
              | (refine ⟨trivial, ?_⟩; refine (CallsIn.inRound _ (callsIn_wide.2 (other_any i' (by omega) _))).mono ?_; rintro e w' ⟨rfl, hw⟩; obtain rfl := hw.symm)
              | (refine ⟨trivial, ?_⟩; refine (CallsIn.inRound _ (callsIn_wide.2 (there_any _ _ _))).mono ?_; rintro e w' ⟨rfl, hw⟩; obtain rfl := hw.symm))
            refine wpIn_round_K (S := fun X => X.cell? ⟨w.heap.size + 1, 0, none⟩ = some (.slice av nv cv) ∧ X.cell? ⟨w.heap.size, 0, none⟩ = some (.int .i64 (i' : Int))) (fun i => decide (i < 7)) (by kernel_rfl) (by kernel_rfl) ?_
            refine K_take (i := 0) (v := .slice av nv cv) rfl (by kernel_rfl) (by kernel_rfl) (by kernel_rfl) (by kernel_rfl) (by kernel_rfl) (by rfl) (fun w' hS => by obtain ⟨h1, h2⟩ := hS; go_simp) ⟨cbp, cbi⟩ ?_
            refine K_take (i := 1) (v := .slice (some ⟨g2, o2, none⟩) rl c2) rfl (by kernel_rfl) (by kernel_rfl) (by kernel_rfl) (by kernel_rfl) (by kernel_rfl) (by rfl) (fun w' hS => by go_simp) ⟨cbp, cbi⟩ ?_
            refine K_take (i := 2) (v := .int .i64 (i' : Int)) rfl (by kernel_rfl) (by kernel_rfl) (by kernel_rfl) (by kernel_rfl) (by kernel_rfl) (by rfl) (fun w' hS => by obtain ⟨h1, h2⟩ := hS; go_simp) ⟨cbp, cbi⟩ ?_
            refine K_next (i := 3) (by kernel_rfl) rfl (by rfl) (fun K hK => ?_)
            go_simp
            refine (other_any i' (by omega) W5.drew).mono ?_
            rintro e w' ⟨rfl, rfl⟩
            refine hK _ _ (fun _ => ⟨cbp, cbi⟩) ?_
            clear hK
            refine K_next (i := 4) (by kernel_rfl) rfl (by rfl) (fun K hK => ?_)
            go_simp
            refine hK _ _ (fun _ => ⟨cbp, cbi⟩) ?_
            clear hK
            refine K_next (i := 5) (by kernel_rfl) rfl (by rfl) (fun K hK => ?_)
            refine wp_load_mid 30 _ rfl g2 (o2 + oth i' * 32) rfl (byteCells d).toList _ hrg Tryd.underlying30 rfl (by rw [byteCells_len, hd]; kernel_rfl) ?_
            refine hK _ _ (fun _ => ⟨cbp, cbi⟩) ?_
            clear hK
            refine K_next (i := 6) (by kernel_rfl) rfl (by rfl) (fun K hK => ?_)
            refine op_run (run_build_one _ _ _ d _ hd rfl rfl) ?_
            have hB7 : Below W5.heap.size W5 (W5.drew.alloc (.cells (byteCells d) 30)) := (Below.refl _ W5).drew.alloc (Nat.le_refl _) _
            refine hK _ _ (fun _ => ⟨(hbp.below hB7 hbp.lt).one, (hbi.below hB7 hbi.lt).one⟩) ?_
            clear hK
            refine K_next (i := 7) (by kernel_rfl) rfl (by rfl) (fun K hK => ?_)
            refine wp_append_digs _ _ rfl W'.heap.size (.slice av nv cv) _ _ [d] rfl rfl (hop.below hB7) (digs_one W5.drew d hd) (by simp; omega) (by have := hM.size; have := hB7.size; omega) ?_
            intro v8 W8 ho8 hg8
            refine hK _ _ (fun h => absurd h (by decide)) ?_
            clear hK
            have hlow8 := grown_low2 (hop.below hB7).2 hg8 (by have := hM.size; have := hB7.size; omega)
            have hs8 := hlow8.size
            have hsb : W5.heap.size < (W5.drew.alloc (.cells (byteCells d) 30)).heap.size := by rw [World.size_alloc]; exact Nat.lt_succ_self _
            have hp8 : Has W8 (w.heap.size + 1) #[.slice av nv cv] 22 := (hbp.below hB7 hbp.lt).below hlow8 (by omega)
            have hi8 : Has W8 w.heap.size #[.int .i64 (i' : Int)] 3 := (hbi.below hB7 hbi.lt).below hlow8 (by omega)
            have hL8 : Hid (W8.heap[w.heap.size + 3 + 1]? = some RB) := (hlow8.block _ (by omega)).trans ((hB7.block _ (by omega)).trans HL.out)
            have hM8 : Frm W1.heap.size W' W8 := (hM.below hB7 hM.size).below hlow8 (Nat.le_refl _)
            have hD8 : W8.heap[w.heap.size + 3]? = some (.deferred (some [])) := (hlow8.block _ (by omega)).trans ((hB7.block _ (by omega)).trans hI5.dfr)
            have hl8 : Below w.heap.size w W8 := (hI5.low.trans (hB7.mono (by omega))).trans (hlow8.mono (by omega))
            obtain ⟨a8, n8, cp8, rfl⟩ : ∃ a n c, v8 = Value.slice a n c := by obtain ⟨a, c, e⟩ := ho8.slice; exact ⟨a, _, c, e⟩
            have c8 := hp8.one
            have f8 := hp8.free 0
            clear hlow8 cbp cbi
            refine K_next (i := 8) (by kernel_rfl) rfl (by rfl) (fun K hK => ?_)
            go_simp
            refine hK _ _ (fun h => absurd h (by decide)) (K_done (by kernel_rfl) ?_)
            clear hK c8 f8
            refine named (p := fun X => Exit.inBlock 2 _ _ _ X) ?_
            intro W9 hW9
            have hX : Ex (w.heap.size + 1) W8 W9 := by rw [hW9]; exact Ex.set _ _ _ _
            have hp9 : Has W9 (w.heap.size + 1) #[.slice a8 n8 cp8] 22 := by rw [hW9]; exact hp8.set 0 _
            clear hW9
            have hlt8 := hp8.lt
            have hi9 := hi8.ex hX (by omega)
            have ho9 := ho8.ex hX (by omega)
            have hlt9 : w.heap.size + 3 + 1 < W8.heap.size := (Array.getElem?_eq_some_iff.1 hL8.out).1
            have HL9 : Hid (W9.heap[w.heap.size + 3 + 1]? = some RB) := (hX.block _ hlt9 (by omega)).trans hL8.out
            have hM9 := hM8.ex hX (by omega)
            have hD9 := (hX.block _ (by omega) (by omega)).trans hD8
            have hl9 := hl8.trans (hX.low (by omega) (by omega))
            have hs9 := hX.size
            clear ho8 hX hp8 hi8 hL8 hM8 hD8 hl8
            have ci9 := hi9.one
            have fi9 := hi9.free 0
            gi_wp2
            have eq2 : (i' : Int) / 2 = ((i' / 2 : Nat) : Int) := by omega
            have hY := Ex.set w.heap.size W9 0 (.int .i64 ((i' : Int) / 2))
            have hYs := hY.size
            refine ⟨(hY.block _ (by omega) (by omega)).trans HL9.out, fun W6 hE6 hs6 hl6 => ⟨hl6.trans HR.out.symm, ?_⟩⟩
            have hs6' := hE6.size
            refine ⟨(hl9.trans (hY.low (Nat.le_refl _) (by omega))).trans (hE6.low (by omega) (by omega)), (hE6.block _ (by omega) (by omega)).trans ((hY.block _ (by omega) (by omega)).trans hD9), hI5.hC, hk2, W', _, p ++ [d], i' / 2, hRw, (hM9.ex hY (by omega)).ex hE6 (by omega), hC5, ?_, (hp9.ex hY (by omega)).ex hE6 (by omega), (ho9.ex hY (by omega)).ex hE6 (by omega), HP, HN.out, by simp; omega⟩
            have := (hi9.set 0 (.int .i64 ((i' : Int) / 2))).ex hE6 (by omega)
            rw [eq2] at this
            exact this
          · have ht : thereB (oth i' : Int) (rl : Int) = false := by simp [thereB]; omega
            rw [hrl, if_neg ho, List.nil_append] at hpd
            have HP : Hid (p ++ pathUp (R.drop (k + 1)) (i' / 2) = pathUp R i) := by have := hpp.out; rw [hpd] at this; exact this
            clear hpp hpd hr hsv hsv'
            have Hrl : Hid (r.length = rl) := hrl
            clear hrl
            have hi9 := hbi
            have hp9 := hbp
            have ho9 := hop
            have hM9 := hM
            have hD9 := hI5.dfr
            have hl9 := hI5.low
            have HL9 := HL
            obtain ⟨W9, hW9⟩ : ∃ W9, W5 = W9 := ⟨_, rfl⟩
            rw [hW9] at hi9 hp9 ho9 hM9 hD9 hl9 HL9 hs5' ⊢
            clear cbi cbp fbi fbp hW9
            have ci9 := hi9.one
            have fi9 := hi9.free 0
            gi_wp2_with (first
              | (refine ⟨trivial, ?_⟩; refine (CallsIn.inRound _ (callsIn_wide.2 (other_any i' (by omega) _))).mono ?_; rintro e w' ⟨rfl, hw⟩; obtain rfl := hw.symm)
              | (refine ⟨trivial, ?_⟩; refine (CallsIn.inRound _ (callsIn_wide.2 (there_any _ _ _))).mono ?_; rintro e w' ⟨rfl, hw⟩; obtain rfl := hw.symm))
            have eq2 : (i' : Int) / 2 = ((i' / 2 : Nat) : Int) := by omega
            have hY := Ex.set w.heap.size W9 0 (.int .i64 ((i' : Int) / 2))
            have hYs := hY.size
            refine ⟨(hY.block _ (by omega) (by omega)).trans HL9.out, fun W6 hE6 hs6 hl6 => ⟨hl6.trans HR.out.symm, ?_⟩⟩
            have hs6' := hE6.size
            refine ⟨(hl9.trans (hY.low (Nat.le_refl _) (by omega))).trans (hE6.low (by omega) (by omega)), (hE6.block _ (by omega) (by omega)).trans ((hY.block _ (by omega) (by omega)).trans hD9), hI5.hC, hk2, W', _, p, i' / 2, hRw, (hM9.ex hY (by omega)).ex hE6 (by omega), hC5, ?_, (hp9.ex hY (by omega)).ex hE6 (by omega), (ho9.ex hY (by omega)).ex hE6 (by omega), HP, HN.out, by omega⟩
            have := (hi9.set 0 (.int .i64 ((i' : Int) / 2))).ex hE6 (by omega)
            rw [eq2] at this
            exact this
        · have hk1 := a5 h1r
          have hrl : r.length = 1 := by omega
          have HP : Hid (p = pathUp R i) := by have := hpp.out; rw [pathUp_last hk1, List.append_nil] at this; exact this
          rw [hrl]
          clear hpp hpk a4 a5 hdg hod hsv hsv' hr
          gi_wp2
          refine ⟨HL.out, fun W6 hE6 hs6 => ⟨rfl, hI5.low.trans (hE6.low (by omega) (by omega)), (hE6.block _ (by omega) (by omega)).trans hI5.dfr, by omega, _, hbp.ex hE6 (by omega), ?_⟩⟩
          rw [← HP.out]
          exact (hop.ex hE6 (by omega)).mono (by omega)
      · rintro e W' (⟨rfl, h1, h2⟩ | ⟨rfl, c, h1, h2⟩)
        · exact .inl ⟨rfl, h1.trans hrec, h2⟩
        · exact .inr ⟨rfl, c, h1, h2⟩
    · rintro e W3 ⟨rfl, ⟨rv, xs, _, hI⟩ | hx⟩
      · exact absurd hI.more (Nat.lt_irrefl _)
      · exact ⟨⟨_, rfl⟩, .inr hx⟩
end Go.Proofs.YtcmkjgodgocdfaaDoor
