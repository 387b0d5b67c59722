/- merkle.above: the row above a row. -/
import Derived.Test.YtcmkjgodgocdfaaDoorN1
import Derived.Test.YtcmkjgodgocdfaaDoorD4
import Derived.Test.YtcmkjgodgocdfaaDoorM3
import Derived.Test.YtcmkjgodgocdfaaDoorR6
namespace Go.Proofs.YtcmkjgodgocdfaaDoor
open Go.RowKit
attribute [local go_sem] Oper.semAt_some

def markL (d : Dig) : Dig := shaL (0 :: d)
def bothL (a b : Dig) : Dig := shaL (1 :: (a ++ b))
def aboveL : List Dig → List Dig
  | a :: b :: r => bothL a b :: aboveL r
  | r => r
theorem aboveL_len : ∀ (n : Nat) (ds : List Dig), ds.length ≤ n → (aboveL ds).length = (ds.length + 1) / 2
  | _, [], _ => rfl
  | _, [_], _ => by simp [aboveL]
  | 0, _ :: _ :: _, h => by simp at h
  | n + 1, a :: b :: r, h => by
    show (bothL a b :: aboveL r).length = _
    rw [List.length_cons, aboveL_len n r (by simp at h; omega), List.length_cons, List.length_cons]
    omega
theorem aboveL_all : ∀ (n : Nat) (ds : List Dig), ds.length ≤ n → All32 ds → All32 (aboveL ds)
  | _, [], _, h => h
  | _, [_], _, h => h
  | 0, _ :: _ :: _, h, _ => by simp at h
  | n + 1, a :: b :: r, hl, h => fun i d hd => by
    have ih := aboveL_all n r (by simp at hl; omega) (fun i d hd => h (i + 2) d hd)
    cases i with
    | zero => simp [aboveL] at hd; rw [← hd]; exact shaL_length _
    | succ i => exact ih i d (by simpa [aboveL] using hd)
/-- The k-th one of the row above. -/
def aboveAt (ds : List Dig) (k : Nat) : Dig := if 2 * k + 1 < ds.length then bothL (ds[2 * k]?.getD []) (ds[2 * k + 1]?.getD []) else ds[2 * k]?.getD []
theorem aboveL_at : ∀ (k : Nat) (ds : List Dig), 2 * k < ds.length → (aboveL ds)[k]? = some (aboveAt ds k)
  | 0, [_], _ => rfl
  | 0, a :: b :: r, _ => by simp [aboveL, aboveAt]
  | k + 1, [_], h => by simp at h
  | k + 1, a :: b :: r, h => by
    have h' : 2 * k < r.length := by simp at h; omega
    have := aboveL_at k r h'
    show (bothL a b :: aboveL r)[k + 1]? = _
    rw [List.getElem?_cons_succ, this]
    unfold aboveAt
    simp only [List.length_cons, show 2 * (k + 1) = 2 * k + 1 + 1 by omega, List.getElem?_cons_succ]
    by_cases e : 2 * k + 1 < r.length
    · rw [if_pos e, if_pos (by omega)]
    · rw [if_neg e, if_neg (by omega)]
theorem aboveL_take (ds : List Dig) (k : Nat) (h : 2 * k < ds.length) : (aboveL ds).take (k + 1) = (aboveL ds).take k ++ [aboveAt ds k] := by
  rw [List.take_add_one, aboveL_at k ds h]; rfl
/-- The function that puts together. -/
def joinV (fb : Nat) : Value := .func (.func 44) #[] #[.pointer (some ⟨fb, 0, none⟩)]

theorem OwnD.ex {base b : Nat} {w w' : World} {v : Value} {ds : List Dig} (h : OwnD base w v ds) (k : Ex b w w') (hb : b < base) : OwnD base w' v ds :=
  ⟨h.1, World.ownsRow.kept (row := some b) h.2 ⟨k.os, k.tape, k.output, k.size, fun i hi hn => k.block i hi (fun e => hn (by rw [e]))⟩ (by
    cases hv : v.ownBlock with
    | none => exact .inl rfl
    | some q => right; intro e; have := (h.2.lt q hv).1; have := Option.some.inj e; omega)⟩
/-- Between two rounds of 'above'. -/
structure AbI (w : World) (jv sv : Value) (ds : List Dig) (k : Nat) (W : World) : Prop where
  low : Below w.heap.size w W
  jn : Has W w.heap.size #[jv] 70
  b2 : Has W (w.heap.size + 2) #[sv] 22
  b3 : Has W (w.heap.size + 3) #[.int .i64 2] 3
  dfr : W.heap[w.heap.size + 4]? = some (.deferred (some []))
  size : w.heap.size + 6 ≤ W.heap.size
  up : ∃ v, Has W (w.heap.size + 1) #[v] 22 ∧ OwnD (w.heap.size + 6) W v ((aboveL ds).take k)
theorem AbI.ex {w W W' : World} {jv sv : Value} {ds : List Dig} {k : Nat} (h : AbI w jv sv ds k W) (e : Ex (w.heap.size + 5) W W') : AbI w jv sv ds k W' := by
  have hs := h.size
  obtain ⟨v, h1, h2⟩ := h.up
  exact ⟨h.low.trans (e.low (by omega) (by omega)), h.jn.ex e (by omega), h.b2.ex e (by omega), h.b3.ex e (by omega), (e.block _ (by omega) (by omega)).trans h.dfr, Nat.le_trans hs e.size, v, h1.ex e (by omega), h2.ex e (by omega)⟩
theorem AbI.grow {w W W' : World} {jv sv : Value} {ds : List Dig} {k : Nat} (h : AbI w jv sv ds k W) (e : Below W.heap.size W W') : AbI w jv sv ds k W' := by
  have hs := h.size
  obtain ⟨v, h1, h2⟩ := h.up
  exact ⟨h.low.trans (e.mono (by omega)), h.jn.below e h.jn.lt, h.b2.below e h.b2.lt, h.b3.below e h.b3.lt, (e.block _ (by omega)).trans h.dfr, Nat.le_trans hs e.size, v, h1.below e h1.lt, h2.below e⟩
/-- What an append onto the row above, and its store, leave. -/
theorem AbI.next {w W W1 W2 : World} {jv sv v v' : Value} {ds : List Dig} {k : Nat} {x : Dig} (h : AbI w jv sv ds k W) (e : Below W.heap.size W W1) (h1 : Has W (w.heap.size + 1) #[v] 22) (h2 : OwnD (w.heap.size + 6) W1 v ((aboveL ds).take k))
    (hg : W1.grownBy W2 v.ownBlock) (h3 : OwnD (w.heap.size + 6) W2 v' ((aboveL ds).take k ++ [x])) (hx : (aboveL ds).take (k + 1) = (aboveL ds).take k ++ [x]) : AbI w jv sv ds (k + 1) (W2.setCell ⟨w.heap.size + 1, 0, none⟩ v') := by
  have g := h.grow e
  have hs := g.size
  have hlow := grown_low2 h2.2 hg hs
  have hX := Ex.set (w.heap.size + 1) W2 0 v'
  have hs2 := hg.size
  have hk : ∀ q, q < w.heap.size + 6 → q ≠ w.heap.size + 1 → (W2.setCell ⟨w.heap.size + 1, 0, none⟩ v').heap[q]? = W1.heap[q]? := fun q hq hne => (hX.block q (by omega) hne).trans (hlow.block q hq)
  refine ⟨(g.low.trans (hlow.mono (by omega))).trans (hX.low (by omega) (by omega)), (hk _ (by omega) (by omega)).trans g.jn, (hk _ (by omega) (by omega)).trans g.b2, (hk _ (by omega) (by omega)).trans g.b3, (hk _ (by omega) (by omega)).trans g.dfr,
    by have := hX.size; omega, v', ?_, ?_⟩
  · exact ((h1.below e h1.lt).below hlow (by omega)).set 0 v'
  · rw [hx]; exact h3.ex hX (by omega)
set_option maxRecDepth 100000 in
set_option maxHeartbeats 2000000 in
theorem above_any (v : Value) (ds : List Dig) (fb : Nat) (w : World) (hv : Digs w v ds) (hn : ds.length ≤ 16) (hne : 0 < ds.length) (hf : w.cell? ⟨fb, 0, none⟩ = some (.int .u8 (bv 1))) (hfl : fb < w.heap.size) (hg : Glob w) :
    Calls Tryd.prog 47 #[v, joinV fb] w fun e w' => ∃ v', e = .returned v' ∧ OwnD w.heap.size w' v' (aboveL ds) ∧ Below w.heap.size w w' := by
  obtain ⟨h32, a, cap, g, o, rfl, hcap, hmx, ha, hin, hgl⟩ := hv
  obtain rfl := ha (by intro e; simp [e] at hne)
  clear ha
  have hgs := hg.size
  unfold joinV
  refine (callsIn_wide (n := 10)).1 ?_
  refine callsIn_of_wp_marks Tryd.func47 rfl trivial ?_ rfl
  simp only [Tryd.ntmps47, List.size_toArray, List.length_cons, List.length_nil, Nat.reduceAdd, Nat.reduceSub, Array.replicate_succ, Array.replicate_zero, List.push_toArray, List.append_toArray, List.nil_append, List.cons_append]
  gi_wp2_with (refine ⟨trivial, ?_⟩; refine (callsIn_wide.2 (chunk_any _ _ _ _)).mono ?_; rintro e w' ⟨rfl, hw⟩; obtain rfl := hw.symm)
  refine named (p := Code.wpIn _ _ _ _ _ _) ?_
  intro W0 hW0
  have hz : W0.heap.size = w.heap.size + 4 := by rw [hW0]; simp
  have hB : Below w.heap.size w W0 := by
    rw [hW0]
    repeat (first | exact Below.refl _ _ | refine Below.alloc ?_ (by simp <;> omega) _)
  have x0 : Has W0 w.heap.size #[.func (.func 44) #[] #[.pointer (some ⟨fb, 0, none⟩)]] 70 := by
    rw [hW0]; repeat (first | (refine has_new _ _ _ _ ?_; simp; done) | refine has_old ?_)
  have x1 : Has W0 (w.heap.size + 1) #[.slice none 0 0] 22 := by
    rw [hW0]; repeat (first | (refine has_new _ _ _ _ ?_; simp; done) | refine has_old ?_)
  have x2 : Has W0 (w.heap.size + 2) #[.slice (some ⟨g, o, none⟩) ds.length cap] 22 := by
    rw [hW0]; repeat (first | (refine has_new _ _ _ _ ?_; simp; done) | refine has_old ?_)
  have x3 : Has W0 (w.heap.size + 3) #[.int .i64 2] 3 := by
    rw [hW0]; repeat (first | (refine has_new _ _ _ _ ?_; simp; done) | refine has_old ?_)
  clear hW0 hw
  simp only [Nat.add_assoc, Nat.reduceAdd]
  have hlen := aboveL_len _ ds (Nat.le_refl _)
  refine wp_range_leave (gf := 63) (lb := #[.pointer (some ⟨w.heap.size + 2, 0, none⟩), .pointer (some ⟨w.heap.size + 3, 0, none⟩)]) rfl (Go.Proofs.enters_of Tryd.func63 (by kernel_rfl) rfl)
    (fun W3 => AbI w (.func (.func 44) #[] #[.pointer (some ⟨fb, 0, none⟩)]) (.slice (some ⟨g, o, none⟩) ds.length cap) ds ((ds.length + 1) / 2) W3) (fun _ _ => False) ?call ?done ?left
  case call =>
    intro fn W1 hB0 hz1 hD1 hl1
    rw [hz] at hB0 hz1 hD1 hl1 ⊢
    have hI0 : AbI w (.func (.func 44) #[] #[.pointer (some ⟨fb, 0, none⟩)]) (.slice (some ⟨g, o, none⟩) ds.length cap) ds 0 W1 :=
      ⟨hB.trans (hB0.mono (by omega)), x0.below hB0 (by omega), x2.below hB0 (by omega), x3.below hB0 (by omega), hD1, by omega, _, x1.below hB0 (by omega), by rw [List.take_zero]; exact OwnD.nil _ _⟩
    clear x0 x1 x2 x3 hB
    refine (chunk1_any 9 (w.heap.size + 4 + 1) (w.heap.size + 2) (w.heap.size + 3) g o ds.length cap W1
      (fun k W => W.heap[w.heap.size + 4 + 1]? = W1.heap[w.heap.size + 4 + 1]? ∧ AbI w (.func (.func 44) #[] #[.pointer (some ⟨fb, 0, none⟩)]) (.slice (some ⟨g, o, none⟩) ds.length cap) ds k W)
      hn hcap hmx ⟨rfl, hI0⟩ (fun k W' q h => ⟨h.1, h.2.grow ⟨rfl, rfl, rfl, Nat.le_refl _, fun _ _ => rfl⟩⟩) (fun k W' h => ⟨h.2.b2, h.2.b3⟩) ?_).mono ?_
    · intro k W hk hJ
      obtain ⟨hrec, hI⟩ := hJ
      rw [hl1] at hrec ⊢
      refine (yield_in (R := fun W' => W'.heap[w.heap.size + 4 + 1]? = W.heap[w.heap.size + 4 + 1]? ∧ AbI w (.func (.func 44) #[] #[.pointer (some ⟨fb, 0, none⟩)]) (.slice (some ⟨g, o, none⟩) ds.length cap) ds (k + 1) W') (Rx := fun _ _ => False) hrec rfl ?_).mono ?_
      · clear hrec hl1 hI0 hD1 hB0 hz1
        intro RR RB hrr
        have HR : Hid (W.heap[w.heap.size + 4 + 1]? = some RR) := hrr
        clear hrr
        gi_wp2
        refine ⟨HR.out, ?_⟩
        intro W5 hE5 hs5 hl5
        have hI5 := hI.ex hE5
        clear hI
        obtain ⟨uv, hu, ho⟩ := hI5.up
        have cu := hu.one
        have fu := hu.free 0
        have cj := hI5.jn.one
        have HL : Hid (W5.heap[w.heap.size + 4 + 1]? = some RB) := hl5
        clear hl5
        have htk := aboveL_take ds k hk
        by_cases h2 : 2 * k + 1 < ds.length
        · have em : Nat.min 2 (ds.length - 2 * k) = 2 := by change min 2 _ = 2; omega
          rw [em]
          gi_wp2
          have hgl5 : g < W5.heap.size := Nat.lt_of_lt_of_le hgl hI5.low.size
          have hin5 := hin.block (hI5.low.block g hgl)
          refine wpIn_round_K (S := fun W' => W'.cell? ⟨w.heap.size + 1, 0, none⟩ = some uv ∧ W'.cell? ⟨w.heap.size, 0, none⟩ = some (.func (.func 44) #[] #[.pointer (some ⟨fb, 0, none⟩)])) (fun i => decide (i < 5)) (by kernel_rfl) (by kernel_rfl) ?_
          refine K_take (i := 0) (v := uv) rfl (by kernel_rfl) (by kernel_rfl) (by kernel_rfl) (by kernel_rfl) (by kernel_rfl) (by rfl) (fun w' hS => by obtain ⟨h1, h2⟩ := hS; go_simp) ⟨cu, cj⟩ ?_
          refine K_take (i := 1) (v := .func (.func 44) #[] #[.pointer (some ⟨fb, 0, none⟩)]) rfl (by kernel_rfl) (by kernel_rfl) (by kernel_rfl) (by kernel_rfl) (by kernel_rfl) (by rfl) (fun w' hS => by obtain ⟨h1, h2⟩ := hS; go_simp) ⟨cu, cj⟩ ?_
          refine K_take (i := 2) (v := .slice (some ⟨g, o + 2 * k * 32, none⟩) 2 2) rfl (by kernel_rfl) (by kernel_rfl) (by kernel_rfl) (by kernel_rfl) (by kernel_rfl) (by rfl) (fun w' hS => by go_simp) ⟨cu, cj⟩ ?_
          refine K_next (i := 3) (by kernel_rfl) rfl (by rfl) (fun K hK => ?_)
          go_simp
          have hdg : Digs W5.drew (.slice (some ⟨g, o + 2 * k * 32, none⟩) 2 2) [ds[2 * k]?.getD [], ds[2 * k + 1]?.getD []] := by
            have := digs_sub (w := W5.drew) (j := 2 * k) (m := 2) (c := 2) h32 hin5 hgl5 (by omega) (Nat.le_refl _) (by unfold maxLen; omega)
            have e : (ds.drop (2 * k)).take 2 = [ds[2 * k]?.getD [], ds[2 * k + 1]?.getD []] := by
              apply List.ext_getElem?
              intro i
              rw [List.getElem?_take, List.getElem?_drop]
              match i with
              | 0 => simp [show 2 * k < ds.length by omega]
              | 1 => simp [h2]
              | i + 2 => rw [if_neg (by omega)]; simp
            rwa [e] at this
          have hat : aboveAt ds k = shaL (1 :: [ds[2 * k]?.getD [], ds[2 * k + 1]?.getD []].flatten) := by unfold aboveAt bothL; rw [if_pos h2]; simp
          obtain ⟨x, hx⟩ : ∃ x, aboveAt ds k = x := ⟨_, rfl⟩
          rw [hx] at hat htk
          have hx32 : x.length = 32 := by rw [hat]; exact shaL_length _
          refine (behind1_any 1 fb _ _ W5.drew ((hI5.low.cell (p := ⟨fb, 0, none⟩) hfl).trans hf) (Nat.lt_of_lt_of_le hfl hI5.low.size) hdg (by simp) ⟨(hg.below hI5.low hg.size).sq, (hg.below hI5.low hg.size).cu, (hg.below hI5.low hg.size).size⟩).mono ?_
          rintro e W6 ⟨rfl, hB6⟩
          rw [← hat]
          have hB6' : Below W5.heap.size W5 W6 := (Below.refl _ W5).drew.trans hB6
          have s6 : W6.cell? ⟨w.heap.size + 1, 0, none⟩ = some uv ∧ W6.cell? ⟨w.heap.size, 0, none⟩ = some (.func (.func 44) #[] #[.pointer (some ⟨fb, 0, none⟩)]) := ⟨(hu.below hB6' hu.lt).one, (hI5.jn.below hB6' hI5.jn.lt).one⟩
          refine hK _ _ (fun _ => s6) ?_
          clear hK
          refine K_next (i := 4) (by kernel_rfl) rfl (by rfl) (fun K hK => ?_)
          refine op_run (run_build_one _ _ _ x _ hx32 rfl rfl) ?_
          have hB7 : Below W5.heap.size W5 (W6.alloc (.cells (byteCells x) 30)) := hB6'.alloc hB6'.size _
          refine hK _ _ (fun _ => ⟨(hu.below hB7 hu.lt).one, (hI5.jn.below hB7 hI5.jn.lt).one⟩) ?_
          clear hK s6
          refine K_next (i := 5) (by kernel_rfl) rfl (by rfl) (fun K hK => ?_)
          refine wp_append_digs _ _ rfl (w.heap.size + 6) uv _ _ [x] rfl rfl (ho.below hB7) (digs_one W6 x hx32) (by simp; omega) (by have := hI5.size; have := hB7.size; omega) ?_
          intro v8 W8 ho8 hg8
          refine hK _ _ (fun h => absurd h (by decide)) ?_
          clear hK
          have hI8 := hI5.next hB7 hu (ho.below hB7) hg8 ho8 htk
          have hu8 : Has W8 (w.heap.size + 1) #[uv] 22 := (hu.below hB7 hu.lt).below (grown_low2 (ho.below hB7).2 hg8 (by have := hI5.size; have := hB7.size; omega)) (by omega)
          have c8 := hu8.one
          have f8 := hu8.free 0
          have hL8 : W8.heap[w.heap.size + 4 + 1]? = some RB := ((grown_low2 (ho.below hB7).2 hg8 (by have := hI5.size; have := hB7.size; omega)).block _ (by omega)).trans ((hB7.block _ (by have := hI5.size; omega)).trans HL.out)
          have HL8 : Hid (W8.heap[w.heap.size + 4 + 1]? = some RB) := hL8
          clear hL8
          obtain ⟨a8, n8, cp8, rfl⟩ : ∃ a n c, v8 = Value.slice a n c := by obtain ⟨a, c, e⟩ := ho8.slice; exact ⟨a, _, c, e⟩
          clear ho8
          refine K_next (i := 6) (by kernel_rfl) rfl (by rfl) (fun K hK => ?_)
          go_simp
          refine hK _ _ (fun h => absurd h (by decide)) (K_done (by kernel_rfl) ?_)
          have hX := Ex.set (w.heap.size + 1) W8 0 (.slice a8 n8 cp8)
          have hs8 : w.heap.size + 4 + 1 < W8.heap.size := (Array.getElem?_eq_some_iff.1 HL8.out).1
          exact ⟨(hX.block _ hs8 (by omega)).trans HL8.out, fun W6 hE6 hs6 hl6 => ⟨hl6.trans HR.out.symm, hI8.ex hE6⟩⟩
        · have em : Nat.min 2 (ds.length - 2 * k) = 1 := by change min 2 _ = 1; omega
          rw [em]
          have hgl5 : g < W5.heap.size := Nat.lt_of_lt_of_le hgl hI5.low.size
          have hin5 := hin.block (hI5.low.block g hgl)
          obtain ⟨x, hx⟩ : ∃ x, aboveAt ds k = x := ⟨_, rfl⟩
          have hat : x = ds[2 * k]?.getD [] := by rw [← hx]; unfold aboveAt; rw [if_neg h2]
          rw [hx] at htk
          have hdg : Digs W5 (.slice (some ⟨g, o + 2 * k * 32, none⟩) 1 1) [x] := by
            have := digs_sub (w := W5) (j := 2 * k) (m := 1) (c := 1) h32 hin5 hgl5 (by omega) (Nat.le_refl _) (by unfold maxLen; omega)
            have e : (ds.drop (2 * k)).take 1 = [x] := by
              apply List.ext_getElem?
              intro i
              rw [List.getElem?_take, List.getElem?_drop, hat]
              match i with
              | 0 => simp [hk]
              | i + 1 => rw [if_neg (by omega)]; simp
            rwa [e] at this
          have hz5 := hI5.size
          have hlen5 : ((aboveL ds).take k).length + 1 ≤ 1000 := by rw [List.length_take]; omega
          clear hat hx
          gi_wp2_with (refine wpListIn_append_digs (by rfl) _ _ rfl (w.heap.size + 6) uv _ _ [x] rfl rfl ho hdg (by simpa using hlen5) (by omega) ?_; intro v8 W8 ho8 hg8; have hI8 := hI5.next (Below.refl _ _) hu ho hg8 ho8 htk; have hu8 : Has W8 (w.heap.size + 1) #[uv] 22 := hu.below (grown_low2 ho.2 hg8 (by omega)) (by omega); have c8 := hu8.one; have f8 := hu8.free 0; have HL8 : Hid (W8.heap[w.heap.size + 4 + 1]? = some RB) := ((grown_low2 ho.2 hg8 (by omega)).block _ (by omega)).trans HL.out; obtain ⟨a8, n8, cp8, rfl⟩ : ∃ a n c, v8 = Value.slice a n c := (by obtain ⟨a, c, e⟩ := ho8.slice; exact ⟨a, _, c, e⟩); clear ho8)
          have hX := Ex.set (w.heap.size + 1) W8 0 (.slice a8 n8 cp8)
          have hs8 : w.heap.size + 4 + 1 < W8.heap.size := (Array.getElem?_eq_some_iff.1 HL8.out).1
          exact ⟨(hX.block _ hs8 (by omega)).trans HL8.out, fun W6 hE6 hs6 hl6 => ⟨hl6.trans HR.out.symm, hI8.ex hE6⟩⟩
      · rintro e W' (⟨rfl, h1, h2⟩ | ⟨_, _, _, h⟩)
        · exact ⟨rfl, h1.trans hrec, h2⟩
        · exact h.elim
    · rintro e W3 ⟨rfl, h1, h2⟩
      exact ⟨⟨_, rfl⟩, .inl ⟨h1, h2⟩⟩
  case left => intro c W3 W4 h; exact h.elim
  case done =>
    rintro W3 W4 hI3 hE4 hs4
    rw [hz] at hE4
    have hI4 := hI3.ex hE4
    obtain ⟨uv, hu, ho⟩ := hI4.up
    have cu := hu.one
    gi_wp2
    rw [hz]
    refine ⟨by simp, .inl ⟨_, _, rfl, run_takeDeferred hI4.dfr, ?_⟩⟩
    refine ⟨_, results_tmp rfl _ _ _, _, rfl, ?_, ?_⟩
    · rw [← hlen, List.take_length] at ho
      exact (ho.ex (putObj_ex (w.heap.size + 4) W4 _) (by omega)).mono (by omega)
    · have := hI4.size; exact hI4.low.trans ((putObj_ex (w.heap.size + 4) W4 _).low (by omega) (by omega))
end Go.Proofs.YtcmkjgodgocdfaaDoor
