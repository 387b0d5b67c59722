/- CodeUnlike: the law's walk. -/
import Derived.Test.YtoalchlokcphkaaDoorZ1
import Derived.Test.YtoalchlokcphkaaDoorB2
namespace Go.Proofs.YtoalchlokcphkaaDoor
open Go.RowKit

theorem K_skip {P : Program} {ops : Array Oper} {Q : Exit → Act → World → Prop} {S : World → Prop} {kp : Nat → Bool} {i : Nat} {oi : Oper} {fuel : Nat} {listed : Array Bool} {a : Act} {w : World} (hi : ops[i]? = some oi)
    (hs : Region.noSelect ops = true) (hf : Region.free .any ops listed i = true) (hr : (Region.ready .any ops listed).contains i = true) (hk : asksAll ops kp i = true) (hc : closedB ops listed = true)
    (hw : Region.wanted oi (yielded ops a.tmps) = false) (hS : S w)
    (h : anyK P ops (onlyN Q) S kp fuel (listed.setIfInBounds i true) (a.put oi.dst undef) w) : anyK P ops (onlyN Q) S kp (fuel + 1) listed a w :=
  anyK_first hi (Region.noSelect_spec hs) (fun _ _ _ h => absurd h.1 (by simp)) hk fuel listed a w (closed_of hc) (Region.free_spec hi hf) (by simpa using hr) (.inr ⟨hw, rfl⟩) hS h
def gA (i : Ins) : Int := if i.may then 0 else 2
def txA (i : Ins) : List UInt8 := if i.may then txtL i else []
theorem text_all (i : Ins) (w : World) (hG : Glob w) (hT : Tab w) (hu : i.imm < 4294967296) :
    Calls Tryd.prog 19 #[.agg #[.int .i64 i.op, .int .i64 i.dst, .int .i64 i.src, .int .i64 i.off, .int .u32 i.imm]] w fun e w' => e = .returned (.tuple #[.string (str (txA i)), .int .i64 (gA i)]) ∧ Below w.heap.size w w' := by
  unfold gA txA
  cases hm : i.may
  · exact text_no i w hG hm
  · exact text_any i w hG hT hm hu
theorem txA_same {i j : Ins} (hi : gA i = 0) (hj : gA j = 0) : ((str (txA i)).toList == (str (txA j)).toList) = insEq i j := by
  have mi : i.may = true := by unfold gA at hi; cases h : i.may <;> rw [h] at hi <;> simp_all
  have mj : j.may = true := by unfold gA at hj; cases h : j.may <;> rw [h] at hj <;> simp_all
  rw [ByteArray.toList_eq, ByteArray.toList_eq]
  show (txA i == txA j) = _
  unfold txA
  rw [mi, mj]
  show (txtL i == txtL j) = _
  cases h : insEq i j
  · rw [beq_eq_false_iff_ne]
    intro e
    rw [(insEq_iff i j).2 (txt_inj mi mj e)] at h
    cases h
  · rw [(insEq_iff i j).1 h, beq_self_eq_true]
theorem eql_chain {α : Type} (i j : Ins) (F : Bool → α) :
    (if i.op = j.op then if i.dst = j.dst then if i.src = j.src then if i.off = j.off then if (i.imm : Int) = (j.imm : Int) then F true else F false else F false else F false else F false else F false) = F (insEq i j) := by
  have := neq_chain i j (fun b => F (!b))
  simpa using this
set_option maxRecDepth 10000 in
set_option maxHeartbeats 2000000 in
theorem unlike_long1 (c1 c2 : Int) (s1 s2 : Value) (l1 l2 : List Ins) (w : World) (hP1 : Prg w s1 l1) (hP2 : Prg w s2 l2) (hG : Glob w) (hl : 40 < l1.length) :
    Calls Tryd.prog 10 #[.agg #[.int .i64 c1, s1], .agg #[.int .i64 c2, s2]] w fun e w' => e = .returned (.bool true) ∧ Below w.heap.size w w' := by
  obtain ⟨a1, p1, rfl⟩ := hP1.slice
  obtain ⟨a2, p2, rfl⟩ := hP2.slice
  have hB0 : Below w.heap.size w ((w.alloc (.cells #[.int .i64 c1, .slice a1 l1.length p1] 24)).alloc (.cells #[.int .i64 c2, .slice a2 l2.length p2] 24)) := ((Below.refl _ _).alloc (Nat.le_refl _) _).alloc (by simp) _
  have hk := known_any _ (hG.below hB0 hG.size)
  have hl' : (40 : Int) < l1.length := by omega
  generalize l1.length = n1 at *
  generalize l2.length = n2 at *
  clear hP1 hP2
  go_enter Tryd.func10, Tryd.ntmps10
  go_wp2_with fail
  refine hk.mono ?_
  rintro e W1 ⟨rfl, hB1⟩
  go_wp2_with fail
  go_ret
  exact ⟨rfl, hB0.trans (hB1.mono hB0.size)⟩
set_option maxRecDepth 10000 in
set_option maxHeartbeats 2000000 in
theorem unlike_long2 (c1 c2 : Int) (s1 s2 : Value) (l1 l2 : List Ins) (w : World) (hP1 : Prg w s1 l1) (hP2 : Prg w s2 l2) (hG : Glob w) (hl0 : l1.length ≤ 40) (hl : 40 < l2.length) :
    Calls Tryd.prog 10 #[.agg #[.int .i64 c1, s1], .agg #[.int .i64 c2, s2]] w fun e w' => e = .returned (.bool true) ∧ Below w.heap.size w w' := by
  obtain ⟨a1, p1, rfl⟩ := hP1.slice
  obtain ⟨a2, p2, rfl⟩ := hP2.slice
  have hB0 : Below w.heap.size w ((w.alloc (.cells #[.int .i64 c1, .slice a1 l1.length p1] 24)).alloc (.cells #[.int .i64 c2, .slice a2 l2.length p2] 24)) := ((Below.refl _ _).alloc (Nat.le_refl _) _).alloc (by simp) _
  have hk := known_any _ (hG.below hB0 hG.size)
  have hl' : (40 : Int) < l2.length := by omega
  have hl0' : ¬ (40 : Int) < l1.length := by omega
  generalize l1.length = n1 at *
  generalize l2.length = n2 at *
  clear hP1 hP2
  go_enter Tryd.func10, Tryd.ntmps10
  go_wp2_with fail
  refine hk.mono ?_
  rintro e W1 ⟨rfl, hB1⟩
  go_wp2_with fail
  go_ret
  exact ⟨rfl, hB0.trans (hB1.mono hB0.size)⟩
set_option maxRecDepth 10000 in
set_option maxHeartbeats 2000000 in
theorem unlike_b (c1 c2 : Int) (s1 s2 : Value) (l1 l2 : List Ins) (w : World) (hP1 : Prg w s1 l1) (hP2 : Prg w s2 l2) (hG : Glob w) (hT : Tab w) (hu1 : ∀ i ∈ l1, i.imm < 4294967296) (hu2 : ∀ i ∈ l2, i.imm < 4294967296) (hl1 : l1.length ≤ 40) (hl2 : l2.length ≤ 40) (hE1 : chkE c1 l1 ≠ 0) :
    Calls Tryd.prog 10 #[.agg #[.int .i64 c1, s1], .agg #[.int .i64 c2, s2]] w fun e w' => e = .returned (.bool true) ∧ Below w.heap.size w w' := by
  have hsz1 := hT.size
  have hEn1 : ∀ W, Below w.heap.size w W → Calls Tryd.prog 13 #[.agg #[.int .i64 c1, s1]] W fun e w' => ∃ v, e = .returned (.tuple #[v, .int .i64 (chkE c1 l1)]) ∧ (chkE c1 l1 = 0 → Bytes w' v (progL c1.toNat l1)) ∧ Below W.heap.size W w' := fun W hB => by
    by_cases h : chkE c1 l1 = 0
    · refine (encode_ok c1 s1 l1 W (hP1.below hB) (hG.below hB hG.size) hu1 h).mono ?_
      rintro e w' ⟨v, rfl, hO, _, hB'⟩
      exact ⟨v, by rw [h], fun _ => hO.bytes (by have := hB.size; have := hB'.size; omega), hB'⟩
    · refine (encode_bad c1 s1 l1 W (hP1.below hB) (hG.below hB hG.size) (by omega) h).mono ?_
      rintro e w' ⟨rfl, hB'⟩
      exact ⟨_, rfl, fun h' => absurd h' h, hB'⟩
  have hEn2 : ∀ W, Below w.heap.size w W → Calls Tryd.prog 13 #[.agg #[.int .i64 c2, s2]] W fun e w' => ∃ v, e = .returned (.tuple #[v, .int .i64 (chkE c2 l2)]) ∧ (chkE c2 l2 = 0 → Bytes w' v (progL c2.toNat l2)) ∧ Below W.heap.size W w' := fun W hB => by
    by_cases h : chkE c2 l2 = 0
    · refine (encode_ok c2 s2 l2 W (hP2.below hB) (hG.below hB hG.size) hu2 h).mono ?_
      rintro e w' ⟨v, rfl, hO, _, hB'⟩
      exact ⟨v, by rw [h], fun _ => hO.bytes (by have := hB.size; have := hB'.size; omega), hB'⟩
    · refine (encode_bad c2 s2 l2 W (hP2.below hB) (hG.below hB hG.size) (by omega) h).mono ?_
      rintro e w' ⟨rfl, hB'⟩
      exact ⟨_, rfl, fun h' => absurd h' h, hB'⟩
  have hsm : ∀ W, Below w.heap.size w W → _ := fun W hB => rsame_any c1 c2 s1 s2 l1 l2 W (hP1.below hB) (hP2.below hB) (by omega)
  obtain ⟨a1, p1, b1, o1, rfl, ha1, hI1, hb1⟩ := hP1
  obtain ⟨a2, p2, b2, o2, rfl, ha2, hI2, hb2⟩ := hP2
  obtain ⟨n1, hn1⟩ : ∃ n1, n1 = l1.length := ⟨_, rfl⟩
  obtain ⟨n2, hn2⟩ : ∃ n2, n2 = l2.length := ⟨_, rfl⟩
  have HN : Hid (n1 = l1.length ∧ n2 = l2.length) := ⟨hn1, hn2⟩
  have hl1' : ¬ (40 : Int) < n1 := by omega
  have hl2' : ¬ (40 : Int) < n2 := by omega
  simp only [← hn1] at hEn1
  simp only [← hn2] at hEn2
  simp only [← hn1, ← hn2] at hsm
  rw [← hn1, ← hn2]
  generalize chkE c1 l1 = E1 at *
  generalize chkE c2 l2 = E2 at *
  have hq1 : (E1 == 0) = false := by simpa using hE1
  clear hE1
  obtain ⟨W0, hW0⟩ : ∃ W0, W0 = (w.alloc (.cells #[.int .i64 c1, .slice a1 n1 p1] 24)).alloc (.cells #[.int .i64 c2, .slice a2 n2 p2] 24) := ⟨_, rfl⟩
  have hB0 : Below w.heap.size w W0 := by rw [hW0]; exact ((Below.refl _ _).alloc (Nat.le_refl _) _).alloc (by simp) _
  have hX0 : Has W0 w.heap.size #[.int .i64 c1, .slice a1 n1 p1] 24 := by rw [hW0]; exact has_old (has_new _ _ _ _ rfl)
  have hY0 : Has W0 (w.heap.size + 1) #[.int .i64 c2, .slice a2 n2 p2] 24 := by rw [hW0]; exact has_new _ _ _ _ (by simp)
  clear hn1 hn2 hl1 hl2
  go_enter Tryd.func10, Tryd.ntmps10
  go_wp2_with fail
  rw [← hW0]
  clear hW0
  refine (hEn1 W0 hB0).mono ?_
  rintro e W1 ⟨v1, rfl, hv1, hB1⟩
  have hBw1 := hB0.trans (hB1.mono hB0.size)
  have hX1 := hX0.below hB1 hX0.lt
  have hY1 := hY0.below hB1 hY0.lt
  have y0 := hY1.cell 0
  have y1 := hY1.cell 1
  clear hX0 hY0 hB0 hB1 hEn1
  go_wp2_with fail
  refine (hEn2 W1 hBw1).mono ?_
  rintro e W2 ⟨v2, rfl, hv2, hB2⟩
  have hBw2 := hBw1.trans (hB2.mono hBw1.size)
  have hX2 := hX1.below hB2 hX1.lt
  have hY2 := hY1.below hB2 hY1.lt
  clear y0 y1 hX1 hY1 hBw1 hEn2
  go_wp2_with fail
  have hS0 : Below W2.heap.size W2 W2.drew := (Below.refl _ _).drew
  refine wp_region_K (S := fun X => Below W2.heap.size W2 X) (fun _ => true) (by kernel_rfl) ?_
  refine K_take (i := 0) (v := .int .i64 E1) rfl (by kernel_rfl) (by kernel_rfl) (by kernel_rfl) (by kernel_rfl) (by kernel_rfl) (by kernel_rfl) (fun w' hS => by go_simp) hS0 ?_
  refine K_take (i := 1) (v := .bool false) rfl (by kernel_rfl) (by kernel_rfl) (by kernel_rfl) (by kernel_rfl) (by kernel_rfl) (by kernel_rfl) (fun w' hS => by go_simp) hS0 ?_
  refine K_take (i := 2) (v := .bool false) rfl (by kernel_rfl) (by kernel_rfl) (by kernel_rfl) (by kernel_rfl) (by kernel_rfl) (by kernel_rfl) (fun w' hS => by go_simp) hS0 ?_
  refine K_skip (i := 3) rfl (by kernel_rfl) (by kernel_rfl) (by kernel_rfl) (by kernel_rfl) (by kernel_rfl) (by kernel_rfl) hS0 ?_
  refine K_skip (i := 4) rfl (by kernel_rfl) (by kernel_rfl) (by kernel_rfl) (by kernel_rfl) (by kernel_rfl) (by kernel_rfl) hS0 ?_
  refine K_take (i := 5) (v := .bool false) rfl (by kernel_rfl) (by kernel_rfl) (by kernel_rfl) (by kernel_rfl) (by kernel_rfl) (by kernel_rfl) (fun w' hS => by go_simp) hS0 ?_
  refine K_take (i := 6) (v := .bool false) rfl (by kernel_rfl) (by kernel_rfl) (by kernel_rfl) (by kernel_rfl) (by kernel_rfl) (by kernel_rfl) (fun w' hS => by go_simp) hS0 ?_
  refine K_skip (i := 7) rfl (by kernel_rfl) (by kernel_rfl) (by kernel_rfl) (by kernel_rfl) (by kernel_rfl) (by kernel_rfl) hS0 ?_
  refine K_skip (i := 8) rfl (by kernel_rfl) (by kernel_rfl) (by kernel_rfl) (by kernel_rfl) (by kernel_rfl) (by kernel_rfl) hS0 ?_
  refine K_skip (i := 9) rfl (by kernel_rfl) (by kernel_rfl) (by kernel_rfl) (by kernel_rfl) (by kernel_rfl) (by kernel_rfl) hS0 ?_
  refine K_skip (i := 10) rfl (by kernel_rfl) (by kernel_rfl) (by kernel_rfl) (by kernel_rfl) (by kernel_rfl) (by kernel_rfl) hS0 ?_
  refine K_skip (i := 11) rfl (by kernel_rfl) (by kernel_rfl) (by kernel_rfl) (by kernel_rfl) (by kernel_rfl) (by kernel_rfl) hS0 ?_
  refine K_skip (i := 12) rfl (by kernel_rfl) (by kernel_rfl) (by kernel_rfl) (by kernel_rfl) (by kernel_rfl) (by kernel_rfl) hS0 ?_
  refine K_skip (i := 13) rfl (by kernel_rfl) (by kernel_rfl) (by kernel_rfl) (by kernel_rfl) (by kernel_rfl) (by kernel_rfl) hS0 ?_
  refine K_skip (i := 14) rfl (by kernel_rfl) (by kernel_rfl) (by kernel_rfl) (by kernel_rfl) (by kernel_rfl) (by kernel_rfl) hS0 ?_
  refine K_skip (i := 15) rfl (by kernel_rfl) (by kernel_rfl) (by kernel_rfl) (by kernel_rfl) (by kernel_rfl) (by kernel_rfl) hS0 ?_
  refine K_take (i := 16) (v := .bool false) rfl (by kernel_rfl) (by kernel_rfl) (by kernel_rfl) (by kernel_rfl) (by kernel_rfl) (by kernel_rfl) (fun w' hS => by go_simp) hS0 ?_
  refine K_done (by kernel_rfl) ?_
  go_simp
  go_wp2_with fail
  go_loopw [9] (fun iv wr => ∃ k : Nat, iv = .int .i64 k ∧ k ≤ n1 ∧ k ≤ n2 ∧ Below W2.heap.size W2 wr) (fun iv _ => n1 - (intOf iv).toNat)
  case atStart => exact ⟨0, rfl, Nat.zero_le _, Nat.zero_le _, hS0⟩
  case round =>
    clear hS0
    obtain ⟨k, rfl, hk1, hk2, hBr⟩ := hrel
    have hBw := hBw2.trans (hBr.mono hBw2.size)
    have hX3 := hX2.below hBr hX2.lt
    have hY3 := hY2.below hBr hY2.lt
    have x1 := hX3.cell 1
    have y1 := hY3.cell 1
    have hk := known_any wr (hG.below hBw hG.size)
    by_cases h1 : k < n1
    · have h1' : (k : Int) < n1 := by omega
      by_cases h2 : k < n2
      · have h2' : (k : Int) < n2 := by omega
        obtain ⟨i1, hi1⟩ : ∃ i1, l1[k]? = some i1 := ⟨_, List.getElem?_eq_getElem (by have := HN.out.1; omega)⟩
        obtain ⟨i2, hi2⟩ : ∃ i2, l2[k]? = some i2 := ⟨_, List.getElem?_eq_getElem (by have := HN.out.2; omega)⟩
        obtain rfl := ha1 (fun e => by rw [e] at hi1; simp at hi1)
        obtain rfl := ha2 (fun e => by rw [e] at hi2; simp at hi2)
        have hIr1 := fun W (hB : Below w.heap.size w W) => hI1.below hB hb1
        have hIr2 := fun W (hB : Below w.heap.size w W) => hI2.below hB hb2
        have ht1 := text_all i1 wr (hG.below hBw hG.size) (hT.below hBw hsz1) (hu1 i1 (List.mem_of_getElem? hi1))
        have ht2 := fun W (hB : Below w.heap.size w W) => text_all i2 W (hG.below hB hG.size) (hT.below hB hsz1) (hu2 i2 (List.mem_of_getElem? hi2))
        have c0 := (hIr1 wr hBw).op k _ hi1
        have c1' := (hIr1 wr hBw).dst k _ hi1
        have c2' := (hIr1 wr hBw).src k _ hi1
        have c3 := (hIr1 wr hBw).off k _ hi1
        have c4 := (hIr1 wr hBw).imm k _ hi1
        have HI : Hid (l1[k]? = some i1 ∧ l2[k]? = some i2) := ⟨hi1, hi2⟩
        have HT : Hid (gA i1 = 0 → gA i2 = 0 → ((str (txA i1)).toList == (str (txA i2)).toList) = insEq i1 i2) := fun h h' => txA_same h h'
        clear hi1 hi2 hk
        generalize str (txA i1) = S1 at *
        generalize str (txA i2) = S2 at *
        generalize gA i1 = g1 at *
        generalize gA i2 = g2 at *
        go_wp2_with fail
        refine ht1.mono ?_
        rintro e W4 ⟨rfl, hB4⟩
        have hBr4 := hBr.trans (hB4.mono hBr.size)
        have hBw4 := hBw.trans (hB4.mono hBw.size)
        have y1' := (hY3.below hB4 hY3.lt).cell 1
        have d0 := (hIr2 W4 hBw4).op k _ HI.out.2
        have d1 := (hIr2 W4 hBw4).dst k _ HI.out.2
        have d2 := (hIr2 W4 hBw4).src k _ HI.out.2
        have d3 := (hIr2 W4 hBw4).off k _ HI.out.2
        have d4 := (hIr2 W4 hBw4).imm k _ HI.out.2
        clear c0 c1' c2' c3 c4 ht1 x1 y1
        go_wp2_with fail
        refine (ht2 W4 hBw4).mono ?_
        rintro e W5 ⟨rfl, hB5⟩
        have hBr5 := hBr4.trans (hB5.mono hBr4.size)
        have hBw5 := hBw4.trans (hB5.mono hBw4.size)
        clear d0 d1 d2 d3 d4 y1' ht2 hBr4 hBw4
        go_wp2_with fail
        have hS5 : Below W5.heap.size W5 W5.drew := (Below.refl _ _).drew
        have zx : ∀ X, Below W5.heap.size W5 X → X.cell? ⟨w.heap.size, 1, none⟩ = some (.slice (some ⟨b1, o1, none⟩) n1 p1) ∧ X.cell? ⟨w.heap.size + 1, 1, none⟩ = some (.slice (some ⟨b2, o2, none⟩) n2 p2) := fun X hX => ⟨(hX.cell (p := ⟨w.heap.size, 1, none⟩) (hX2.below hBr5 hX2.lt).lt).trans ((hX2.below hBr5 hX2.lt).cell 1), (hX.cell (p := ⟨w.heap.size + 1, 1, none⟩) (hY2.below hBr5 hY2.lt).lt).trans ((hY2.below hBr5 hY2.lt).cell 1)⟩
        have zi1 : ∀ X, Below W5.heap.size W5 X → InsAt X b1 o1 l1 := fun X hX => hIr1 X (hBw5.trans (hX.mono hBw5.size))
        have zi2 : ∀ X, Below W5.heap.size W5 X → InsAt X b2 o2 l2 := fun X hX => hIr2 X (hBw5.trans (hX.mono hBw5.size))
        clear hIr1 hIr2
        refine wp_region_K (S := fun X => Below W5.heap.size W5 X) (fun _ => true) (by kernel_rfl) ?_
        by_cases hg1 : g1 = 0
        · subst hg1
          by_cases hg2 : g2 = 0
          · subst hg2
            have hbb := HT.out rfl rfl
            obtain ⟨QQ, hQQ⟩ : ∃ QQ, QQ = insEq i1 i2 := ⟨_, rfl⟩
            rw [← hQQ] at hbb
            refine K_take (i := 0) (v := .int .i64 0) rfl (by kernel_rfl) (by kernel_rfl) (by kernel_rfl) (by kernel_rfl) (by kernel_rfl) (by kernel_rfl) (fun w' hS => by clear zx zi1 zi2; go_simp) hS5 ?_
            refine K_take (i := 1) (v := .bool true) rfl (by kernel_rfl) (by kernel_rfl) (by kernel_rfl) (by kernel_rfl) (by kernel_rfl) (by kernel_rfl) (fun w' hS => by clear zx zi1 zi2; go_simp) hS5 ?_
            refine K_take (i := 2) (v := .bool true) rfl (by kernel_rfl) (by kernel_rfl) (by kernel_rfl) (by kernel_rfl) (by kernel_rfl) (by kernel_rfl) (fun w' hS => by clear zx zi1 zi2; go_simp) hS5 ?_
            refine K_take (i := 3) (v := .int .i64 0) rfl (by kernel_rfl) (by kernel_rfl) (by kernel_rfl) (by kernel_rfl) (by kernel_rfl) (by kernel_rfl) (fun w' hS => by clear zx zi1 zi2; go_simp) hS5 ?_
            refine K_take (i := 4) (v := .bool true) rfl (by kernel_rfl) (by kernel_rfl) (by kernel_rfl) (by kernel_rfl) (by kernel_rfl) (by kernel_rfl) (fun w' hS => by clear zx zi1 zi2; go_simp) hS5 ?_
            refine K_take (i := 5) (v := .bool true) rfl (by kernel_rfl) (by kernel_rfl) (by kernel_rfl) (by kernel_rfl) (by kernel_rfl) (by kernel_rfl) (fun w' hS => by clear zx zi1 zi2; go_simp) hS5 ?_
            refine K_take (i := 6) (v := .bool true) rfl (by kernel_rfl) (by kernel_rfl) (by kernel_rfl) (by kernel_rfl) (by kernel_rfl) (by kernel_rfl) (fun w' hS => by clear zx zi1 zi2; go_simp) hS5 ?_
            refine K_take (i := 7) (v := .string S1) rfl (by kernel_rfl) (by kernel_rfl) (by kernel_rfl) (by kernel_rfl) (by kernel_rfl) (by kernel_rfl) (fun w' hS => by clear zx zi1 zi2; go_simp) hS5 ?_
            refine K_take (i := 8) (v := .string S2) rfl (by kernel_rfl) (by kernel_rfl) (by kernel_rfl) (by kernel_rfl) (by kernel_rfl) (by kernel_rfl) (fun w' hS => by clear zx zi1 zi2; go_simp) hS5 ?_
            refine K_take (i := 9) (v := .bool QQ) rfl (by kernel_rfl) (by kernel_rfl) (by kernel_rfl) (by kernel_rfl) (by kernel_rfl) (by kernel_rfl) (fun w' hS => by clear zx zi1 zi2; go_simp) hS5 ?_
            refine K_take (i := 10) (v := .pointer (some ⟨w.heap.size, 1, none⟩)) rfl (by kernel_rfl) (by kernel_rfl) (by kernel_rfl) (by kernel_rfl) (by kernel_rfl) (by kernel_rfl) (fun w' hS => by clear zx zi1 zi2; go_simp) hS5 ?_
            refine K_take (i := 11) (v := .slice (some ⟨b1, o1, none⟩) n1 p1) rfl (by kernel_rfl) (by kernel_rfl) (by kernel_rfl) (by kernel_rfl) (by kernel_rfl) (by kernel_rfl) (fun w' hS => by obtain ⟨q0, _⟩ := zx w' hS; clear zx zi1 zi2; go_simp) hS5 ?_
            refine K_take (i := 12) (v := .int .i64 (k : Int)) rfl (by kernel_rfl) (by kernel_rfl) (by kernel_rfl) (by kernel_rfl) (by kernel_rfl) (by kernel_rfl) (fun w' hS => by clear zx zi1 zi2; go_simp) hS5 ?_
            refine K_take (i := 13) (v := .pointer (some ⟨b1, o1 + k * 5, none⟩)) rfl (by kernel_rfl) (by kernel_rfl) (by kernel_rfl) (by kernel_rfl) (by kernel_rfl) (by kernel_rfl) (fun w' hS => by clear zx zi1 zi2; go_simp) hS5 ?_
            refine K_take (i := 14) (v := .agg #[.int .i64 i1.op, .int .i64 i1.dst, .int .i64 i1.src, .int .i64 i1.off, .int .u32 i1.imm]) rfl (by kernel_rfl) (by kernel_rfl) (by kernel_rfl) (by kernel_rfl) (by kernel_rfl) (by kernel_rfl) (fun w' hS => by have u0 := (zi1 w' hS).op k _ HI.out.1; have u1 := (zi1 w' hS).dst k _ HI.out.1; have u2 := (zi1 w' hS).src k _ HI.out.1; have u3 := (zi1 w' hS).off k _ HI.out.1; have u4 := (zi1 w' hS).imm k _ HI.out.1; clear zx zi1 zi2; go_simp) hS5 ?_
            refine K_take (i := 15) (v := .pointer (some ⟨w.heap.size + 1, 1, none⟩)) rfl (by kernel_rfl) (by kernel_rfl) (by kernel_rfl) (by kernel_rfl) (by kernel_rfl) (by kernel_rfl) (fun w' hS => by clear zx zi1 zi2; go_simp) hS5 ?_
            refine K_take (i := 16) (v := .slice (some ⟨b2, o2, none⟩) n2 p2) rfl (by kernel_rfl) (by kernel_rfl) (by kernel_rfl) (by kernel_rfl) (by kernel_rfl) (by kernel_rfl) (fun w' hS => by obtain ⟨_, q0⟩ := zx w' hS; clear zx zi1 zi2; go_simp) hS5 ?_
            refine K_take (i := 17) (v := .int .i64 (k : Int)) rfl (by kernel_rfl) (by kernel_rfl) (by kernel_rfl) (by kernel_rfl) (by kernel_rfl) (by kernel_rfl) (fun w' hS => by clear zx zi1 zi2; go_simp) hS5 ?_
            refine K_take (i := 18) (v := .pointer (some ⟨b2, o2 + k * 5, none⟩)) rfl (by kernel_rfl) (by kernel_rfl) (by kernel_rfl) (by kernel_rfl) (by kernel_rfl) (by kernel_rfl) (fun w' hS => by clear zx zi1 zi2; go_simp) hS5 ?_
            refine K_take (i := 19) (v := .agg #[.int .i64 i2.op, .int .i64 i2.dst, .int .i64 i2.src, .int .i64 i2.off, .int .u32 i2.imm]) rfl (by kernel_rfl) (by kernel_rfl) (by kernel_rfl) (by kernel_rfl) (by kernel_rfl) (by kernel_rfl) (fun w' hS => by have u0 := (zi2 w' hS).op k _ HI.out.2; have u1 := (zi2 w' hS).dst k _ HI.out.2; have u2 := (zi2 w' hS).src k _ HI.out.2; have u3 := (zi2 w' hS).off k _ HI.out.2; have u4 := (zi2 w' hS).imm k _ HI.out.2; clear zx zi1 zi2; go_simp) hS5 ?_
            refine K_take (i := 20) (v := .bool QQ) rfl (by kernel_rfl) (by kernel_rfl) (by kernel_rfl) (by kernel_rfl) (by kernel_rfl) (by kernel_rfl) (fun w' hS => by clear zx zi1 zi2; go_simp; exact eql_chain i1 i2 (fun b => Result.ok (Next.value (Value.bool b)) w')) hS5 ?_
            refine K_take (i := 21) (v := .bool false) rfl (by kernel_rfl) (by kernel_rfl) (by kernel_rfl) (by kernel_rfl) (by kernel_rfl) (by kernel_rfl) (fun w' hS => by clear zx zi1 zi2; go_simp) hS5 ?_
            refine K_take (i := 22) (v := .bool false) rfl (by kernel_rfl) (by kernel_rfl) (by kernel_rfl) (by kernel_rfl) (by kernel_rfl) (by kernel_rfl) (fun w' hS => by clear zx zi1 zi2; go_simp) hS5 ?_
            refine K_done (by kernel_rfl) ?_
            go_simp
            go_wp2_with fail
            go_roundw
            case rel => exact ⟨k + 1, by go_num, by omega, by omega, hBr5.trans (hS5.mono hBr5.size)⟩
            case measure => simp [intOf]; omega
          · have hq2 : (g2 == 0) = false := by simpa using hg2
            clear hg2
            refine K_take (i := 0) (v := .int .i64 0) rfl (by kernel_rfl) (by kernel_rfl) (by kernel_rfl) (by kernel_rfl) (by kernel_rfl) (by kernel_rfl) (fun w' hS => by go_simp) hS5 ?_
            refine K_take (i := 1) (v := .bool true) rfl (by kernel_rfl) (by kernel_rfl) (by kernel_rfl) (by kernel_rfl) (by kernel_rfl) (by kernel_rfl) (fun w' hS => by go_simp) hS5 ?_
            refine K_take (i := 2) (v := .bool true) rfl (by kernel_rfl) (by kernel_rfl) (by kernel_rfl) (by kernel_rfl) (by kernel_rfl) (by kernel_rfl) (fun w' hS => by go_simp) hS5 ?_
            refine K_take (i := 3) (v := .int .i64 g2) rfl (by kernel_rfl) (by kernel_rfl) (by kernel_rfl) (by kernel_rfl) (by kernel_rfl) (by kernel_rfl) (fun w' hS => by go_simp) hS5 ?_
            refine K_take (i := 4) (v := .bool false) rfl (by kernel_rfl) (by kernel_rfl) (by kernel_rfl) (by kernel_rfl) (by kernel_rfl) (by kernel_rfl) (fun w' hS => by go_simp) hS5 ?_
            refine K_take (i := 5) (v := .bool false) rfl (by kernel_rfl) (by kernel_rfl) (by kernel_rfl) (by kernel_rfl) (by kernel_rfl) (by kernel_rfl) (fun w' hS => by go_simp) hS5 ?_
            refine K_take (i := 6) (v := .bool false) rfl (by kernel_rfl) (by kernel_rfl) (by kernel_rfl) (by kernel_rfl) (by kernel_rfl) (by kernel_rfl) (fun w' hS => by go_simp) hS5 ?_
            refine K_skip (i := 7) rfl (by kernel_rfl) (by kernel_rfl) (by kernel_rfl) (by kernel_rfl) (by kernel_rfl) (by kernel_rfl) hS5 ?_
            refine K_skip (i := 8) rfl (by kernel_rfl) (by kernel_rfl) (by kernel_rfl) (by kernel_rfl) (by kernel_rfl) (by kernel_rfl) hS5 ?_
            refine K_skip (i := 9) rfl (by kernel_rfl) (by kernel_rfl) (by kernel_rfl) (by kernel_rfl) (by kernel_rfl) (by kernel_rfl) hS5 ?_
            refine K_skip (i := 10) rfl (by kernel_rfl) (by kernel_rfl) (by kernel_rfl) (by kernel_rfl) (by kernel_rfl) (by kernel_rfl) hS5 ?_
            refine K_skip (i := 11) rfl (by kernel_rfl) (by kernel_rfl) (by kernel_rfl) (by kernel_rfl) (by kernel_rfl) (by kernel_rfl) hS5 ?_
            refine K_skip (i := 12) rfl (by kernel_rfl) (by kernel_rfl) (by kernel_rfl) (by kernel_rfl) (by kernel_rfl) (by kernel_rfl) hS5 ?_
            refine K_skip (i := 13) rfl (by kernel_rfl) (by kernel_rfl) (by kernel_rfl) (by kernel_rfl) (by kernel_rfl) (by kernel_rfl) hS5 ?_
            refine K_skip (i := 14) rfl (by kernel_rfl) (by kernel_rfl) (by kernel_rfl) (by kernel_rfl) (by kernel_rfl) (by kernel_rfl) hS5 ?_
            refine K_skip (i := 15) rfl (by kernel_rfl) (by kernel_rfl) (by kernel_rfl) (by kernel_rfl) (by kernel_rfl) (by kernel_rfl) hS5 ?_
            refine K_skip (i := 16) rfl (by kernel_rfl) (by kernel_rfl) (by kernel_rfl) (by kernel_rfl) (by kernel_rfl) (by kernel_rfl) hS5 ?_
            refine K_skip (i := 17) rfl (by kernel_rfl) (by kernel_rfl) (by kernel_rfl) (by kernel_rfl) (by kernel_rfl) (by kernel_rfl) hS5 ?_
            refine K_skip (i := 18) rfl (by kernel_rfl) (by kernel_rfl) (by kernel_rfl) (by kernel_rfl) (by kernel_rfl) (by kernel_rfl) hS5 ?_
            refine K_skip (i := 19) rfl (by kernel_rfl) (by kernel_rfl) (by kernel_rfl) (by kernel_rfl) (by kernel_rfl) (by kernel_rfl) hS5 ?_
            refine K_skip (i := 20) rfl (by kernel_rfl) (by kernel_rfl) (by kernel_rfl) (by kernel_rfl) (by kernel_rfl) (by kernel_rfl) hS5 ?_
            refine K_skip (i := 21) rfl (by kernel_rfl) (by kernel_rfl) (by kernel_rfl) (by kernel_rfl) (by kernel_rfl) (by kernel_rfl) hS5 ?_
            refine K_take (i := 22) (v := .bool false) rfl (by kernel_rfl) (by kernel_rfl) (by kernel_rfl) (by kernel_rfl) (by kernel_rfl) (by kernel_rfl) (fun w' hS => by go_simp) hS5 ?_
            refine K_done (by kernel_rfl) ?_
            go_simp
            go_wp2_with fail
            go_roundw
            case rel => exact ⟨k + 1, by go_num, by omega, by omega, hBr5.trans (hS5.mono hBr5.size)⟩
            case measure => simp [intOf]; omega
        · have hq1 : (g1 == 0) = false := by simpa using hg1
          clear hg1
          refine K_take (i := 0) (v := .int .i64 g1) rfl (by kernel_rfl) (by kernel_rfl) (by kernel_rfl) (by kernel_rfl) (by kernel_rfl) (by kernel_rfl) (fun w' hS => by go_simp) hS5 ?_
          refine K_take (i := 1) (v := .bool false) rfl (by kernel_rfl) (by kernel_rfl) (by kernel_rfl) (by kernel_rfl) (by kernel_rfl) (by kernel_rfl) (fun w' hS => by go_simp) hS5 ?_
          refine K_take (i := 2) (v := .bool false) rfl (by kernel_rfl) (by kernel_rfl) (by kernel_rfl) (by kernel_rfl) (by kernel_rfl) (by kernel_rfl) (fun w' hS => by go_simp) hS5 ?_
          refine K_skip (i := 3) rfl (by kernel_rfl) (by kernel_rfl) (by kernel_rfl) (by kernel_rfl) (by kernel_rfl) (by kernel_rfl) hS5 ?_
          refine K_skip (i := 4) rfl (by kernel_rfl) (by kernel_rfl) (by kernel_rfl) (by kernel_rfl) (by kernel_rfl) (by kernel_rfl) hS5 ?_
          refine K_take (i := 5) (v := .bool false) rfl (by kernel_rfl) (by kernel_rfl) (by kernel_rfl) (by kernel_rfl) (by kernel_rfl) (by kernel_rfl) (fun w' hS => by go_simp) hS5 ?_
          refine K_take (i := 6) (v := .bool false) rfl (by kernel_rfl) (by kernel_rfl) (by kernel_rfl) (by kernel_rfl) (by kernel_rfl) (by kernel_rfl) (fun w' hS => by go_simp) hS5 ?_
          refine K_skip (i := 7) rfl (by kernel_rfl) (by kernel_rfl) (by kernel_rfl) (by kernel_rfl) (by kernel_rfl) (by kernel_rfl) hS5 ?_
          refine K_skip (i := 8) rfl (by kernel_rfl) (by kernel_rfl) (by kernel_rfl) (by kernel_rfl) (by kernel_rfl) (by kernel_rfl) hS5 ?_
          refine K_skip (i := 9) rfl (by kernel_rfl) (by kernel_rfl) (by kernel_rfl) (by kernel_rfl) (by kernel_rfl) (by kernel_rfl) hS5 ?_
          refine K_skip (i := 10) rfl (by kernel_rfl) (by kernel_rfl) (by kernel_rfl) (by kernel_rfl) (by kernel_rfl) (by kernel_rfl) hS5 ?_
          refine K_skip (i := 11) rfl (by kernel_rfl) (by kernel_rfl) (by kernel_rfl) (by kernel_rfl) (by kernel_rfl) (by kernel_rfl) hS5 ?_
          refine K_skip (i := 12) rfl (by kernel_rfl) (by kernel_rfl) (by kernel_rfl) (by kernel_rfl) (by kernel_rfl) (by kernel_rfl) hS5 ?_
          refine K_skip (i := 13) rfl (by kernel_rfl) (by kernel_rfl) (by kernel_rfl) (by kernel_rfl) (by kernel_rfl) (by kernel_rfl) hS5 ?_
          refine K_skip (i := 14) rfl (by kernel_rfl) (by kernel_rfl) (by kernel_rfl) (by kernel_rfl) (by kernel_rfl) (by kernel_rfl) hS5 ?_
          refine K_skip (i := 15) rfl (by kernel_rfl) (by kernel_rfl) (by kernel_rfl) (by kernel_rfl) (by kernel_rfl) (by kernel_rfl) hS5 ?_
          refine K_skip (i := 16) rfl (by kernel_rfl) (by kernel_rfl) (by kernel_rfl) (by kernel_rfl) (by kernel_rfl) (by kernel_rfl) hS5 ?_
          refine K_skip (i := 17) rfl (by kernel_rfl) (by kernel_rfl) (by kernel_rfl) (by kernel_rfl) (by kernel_rfl) (by kernel_rfl) hS5 ?_
          refine K_skip (i := 18) rfl (by kernel_rfl) (by kernel_rfl) (by kernel_rfl) (by kernel_rfl) (by kernel_rfl) (by kernel_rfl) hS5 ?_
          refine K_skip (i := 19) rfl (by kernel_rfl) (by kernel_rfl) (by kernel_rfl) (by kernel_rfl) (by kernel_rfl) (by kernel_rfl) hS5 ?_
          refine K_skip (i := 20) rfl (by kernel_rfl) (by kernel_rfl) (by kernel_rfl) (by kernel_rfl) (by kernel_rfl) (by kernel_rfl) hS5 ?_
          refine K_skip (i := 21) rfl (by kernel_rfl) (by kernel_rfl) (by kernel_rfl) (by kernel_rfl) (by kernel_rfl) (by kernel_rfl) hS5 ?_
          refine K_take (i := 22) (v := .bool false) rfl (by kernel_rfl) (by kernel_rfl) (by kernel_rfl) (by kernel_rfl) (by kernel_rfl) (by kernel_rfl) (fun w' hS => by go_simp) hS5 ?_
          refine K_done (by kernel_rfl) ?_
          go_simp
          go_wp2_with fail
          go_roundw
          case rel => exact ⟨k + 1, by go_num, by omega, by omega, hBr5.trans (hS5.mono hBr5.size)⟩
          case measure => simp [intOf]; omega
      · have h2' : ¬ (k : Int) < n2 := by omega
        go_wp2_with fail
        refine hk.mono ?_
        rintro e W4 ⟨rfl, hB4⟩
        go_wp2_with fail
        go_ret
        exact ⟨rfl, hBw.trans (hB4.mono hBw.size)⟩
    · have h1' : ¬ (k : Int) < n1 := by omega
      go_wp2_with fail
      refine hk.mono ?_
      rintro e W4 ⟨rfl, hB4⟩
      go_wp2_with fail
      go_ret
      exact ⟨rfl, hBw.trans (hB4.mono hBw.size)⟩
set_option maxRecDepth 10000 in
set_option maxHeartbeats 2000000 in
theorem unlike_ob (c1 c2 : Int) (s1 s2 : Value) (l1 l2 : List Ins) (w : World) (hP1 : Prg w s1 l1) (hP2 : Prg w s2 l2) (hG : Glob w) (hT : Tab w) (hu1 : ∀ i ∈ l1, i.imm < 4294967296) (hu2 : ∀ i ∈ l2, i.imm < 4294967296) (hl1 : l1.length ≤ 40) (hl2 : l2.length ≤ 40) (hE1 : chkE c1 l1 = 0) (hE2 : chkE c2 l2 ≠ 0) :
    Calls Tryd.prog 10 #[.agg #[.int .i64 c1, s1], .agg #[.int .i64 c2, s2]] w fun e w' => e = .returned (.bool true) ∧ Below w.heap.size w w' := by
  have hsz1 := hT.size
  have hEn1 : ∀ W, Below w.heap.size w W → Calls Tryd.prog 13 #[.agg #[.int .i64 c1, s1]] W fun e w' => ∃ v, e = .returned (.tuple #[v, .int .i64 (chkE c1 l1)]) ∧ (chkE c1 l1 = 0 → Bytes w' v (progL c1.toNat l1)) ∧ Below W.heap.size W w' := fun W hB => by
    by_cases h : chkE c1 l1 = 0
    · refine (encode_ok c1 s1 l1 W (hP1.below hB) (hG.below hB hG.size) hu1 h).mono ?_
      rintro e w' ⟨v, rfl, hO, _, hB'⟩
      exact ⟨v, by rw [h], fun _ => hO.bytes (by have := hB.size; have := hB'.size; omega), hB'⟩
    · refine (encode_bad c1 s1 l1 W (hP1.below hB) (hG.below hB hG.size) (by omega) h).mono ?_
      rintro e w' ⟨rfl, hB'⟩
      exact ⟨_, rfl, fun h' => absurd h' h, hB'⟩
  have hEn2 : ∀ W, Below w.heap.size w W → Calls Tryd.prog 13 #[.agg #[.int .i64 c2, s2]] W fun e w' => ∃ v, e = .returned (.tuple #[v, .int .i64 (chkE c2 l2)]) ∧ (chkE c2 l2 = 0 → Bytes w' v (progL c2.toNat l2)) ∧ Below W.heap.size W w' := fun W hB => by
    by_cases h : chkE c2 l2 = 0
    · refine (encode_ok c2 s2 l2 W (hP2.below hB) (hG.below hB hG.size) hu2 h).mono ?_
      rintro e w' ⟨v, rfl, hO, _, hB'⟩
      exact ⟨v, by rw [h], fun _ => hO.bytes (by have := hB.size; have := hB'.size; omega), hB'⟩
    · refine (encode_bad c2 s2 l2 W (hP2.below hB) (hG.below hB hG.size) (by omega) h).mono ?_
      rintro e w' ⟨rfl, hB'⟩
      exact ⟨_, rfl, fun h' => absurd h' h, hB'⟩
  have hsm : ∀ W, Below w.heap.size w W → _ := fun W hB => rsame_any c1 c2 s1 s2 l1 l2 W (hP1.below hB) (hP2.below hB) (by omega)
  obtain ⟨a1, p1, b1, o1, rfl, ha1, hI1, hb1⟩ := hP1
  obtain ⟨a2, p2, b2, o2, rfl, ha2, hI2, hb2⟩ := hP2
  obtain ⟨n1, hn1⟩ : ∃ n1, n1 = l1.length := ⟨_, rfl⟩
  obtain ⟨n2, hn2⟩ : ∃ n2, n2 = l2.length := ⟨_, rfl⟩
  have HN : Hid (n1 = l1.length ∧ n2 = l2.length) := ⟨hn1, hn2⟩
  have hl1' : ¬ (40 : Int) < n1 := by omega
  have hl2' : ¬ (40 : Int) < n2 := by omega
  simp only [← hn1] at hEn1
  simp only [← hn2] at hEn2
  simp only [← hn1, ← hn2] at hsm
  rw [← hn1, ← hn2]
  rw [hE1] at hEn1
  generalize chkE c2 l2 = E2 at *
  have hq2 : (E2 == 0) = false := by simpa using hE2
  clear hE1 hE2
  obtain ⟨W0, hW0⟩ : ∃ W0, W0 = (w.alloc (.cells #[.int .i64 c1, .slice a1 n1 p1] 24)).alloc (.cells #[.int .i64 c2, .slice a2 n2 p2] 24) := ⟨_, rfl⟩
  have hB0 : Below w.heap.size w W0 := by rw [hW0]; exact ((Below.refl _ _).alloc (Nat.le_refl _) _).alloc (by simp) _
  have hX0 : Has W0 w.heap.size #[.int .i64 c1, .slice a1 n1 p1] 24 := by rw [hW0]; exact has_old (has_new _ _ _ _ rfl)
  have hY0 : Has W0 (w.heap.size + 1) #[.int .i64 c2, .slice a2 n2 p2] 24 := by rw [hW0]; exact has_new _ _ _ _ (by simp)
  clear hn1 hn2 hl1 hl2
  go_enter Tryd.func10, Tryd.ntmps10
  go_wp2_with fail
  rw [← hW0]
  clear hW0
  refine (hEn1 W0 hB0).mono ?_
  rintro e W1 ⟨v1, rfl, hv1, hB1⟩
  have hBw1 := hB0.trans (hB1.mono hB0.size)
  have hX1 := hX0.below hB1 hX0.lt
  have hY1 := hY0.below hB1 hY0.lt
  have y0 := hY1.cell 0
  have y1 := hY1.cell 1
  clear hX0 hY0 hB0 hB1 hEn1
  go_wp2_with fail
  refine (hEn2 W1 hBw1).mono ?_
  rintro e W2 ⟨v2, rfl, hv2, hB2⟩
  have hBw2 := hBw1.trans (hB2.mono hBw1.size)
  have hX2 := hX1.below hB2 hX1.lt
  have hY2 := hY1.below hB2 hY1.lt
  clear y0 y1 hX1 hY1 hBw1 hEn2
  go_wp2_with fail
  have hS0 : Below W2.heap.size W2 W2.drew := (Below.refl _ _).drew
  refine wp_region_K (S := fun X => Below W2.heap.size W2 X) (fun _ => true) (by kernel_rfl) ?_
  refine K_take (i := 0) (v := .int .i64 0) rfl (by kernel_rfl) (by kernel_rfl) (by kernel_rfl) (by kernel_rfl) (by kernel_rfl) (by kernel_rfl) (fun w' hS => by go_simp) hS0 ?_
  refine K_take (i := 1) (v := .bool true) rfl (by kernel_rfl) (by kernel_rfl) (by kernel_rfl) (by kernel_rfl) (by kernel_rfl) (by kernel_rfl) (fun w' hS => by go_simp) hS0 ?_
  refine K_take (i := 2) (v := .bool true) rfl (by kernel_rfl) (by kernel_rfl) (by kernel_rfl) (by kernel_rfl) (by kernel_rfl) (by kernel_rfl) (fun w' hS => by go_simp) hS0 ?_
  refine K_take (i := 3) (v := .int .i64 E2) rfl (by kernel_rfl) (by kernel_rfl) (by kernel_rfl) (by kernel_rfl) (by kernel_rfl) (by kernel_rfl) (fun w' hS => by go_simp) hS0 ?_
  refine K_take (i := 4) (v := .bool false) rfl (by kernel_rfl) (by kernel_rfl) (by kernel_rfl) (by kernel_rfl) (by kernel_rfl) (by kernel_rfl) (fun w' hS => by go_simp) hS0 ?_
  refine K_take (i := 5) (v := .bool false) rfl (by kernel_rfl) (by kernel_rfl) (by kernel_rfl) (by kernel_rfl) (by kernel_rfl) (by kernel_rfl) (fun w' hS => by go_simp) hS0 ?_
  refine K_take (i := 6) (v := .bool false) rfl (by kernel_rfl) (by kernel_rfl) (by kernel_rfl) (by kernel_rfl) (by kernel_rfl) (by kernel_rfl) (fun w' hS => by go_simp) hS0 ?_
  refine K_skip (i := 7) rfl (by kernel_rfl) (by kernel_rfl) (by kernel_rfl) (by kernel_rfl) (by kernel_rfl) (by kernel_rfl) hS0 ?_
  refine K_skip (i := 8) rfl (by kernel_rfl) (by kernel_rfl) (by kernel_rfl) (by kernel_rfl) (by kernel_rfl) (by kernel_rfl) hS0 ?_
  refine K_skip (i := 9) rfl (by kernel_rfl) (by kernel_rfl) (by kernel_rfl) (by kernel_rfl) (by kernel_rfl) (by kernel_rfl) hS0 ?_
  refine K_skip (i := 10) rfl (by kernel_rfl) (by kernel_rfl) (by kernel_rfl) (by kernel_rfl) (by kernel_rfl) (by kernel_rfl) hS0 ?_
  refine K_skip (i := 11) rfl (by kernel_rfl) (by kernel_rfl) (by kernel_rfl) (by kernel_rfl) (by kernel_rfl) (by kernel_rfl) hS0 ?_
  refine K_skip (i := 12) rfl (by kernel_rfl) (by kernel_rfl) (by kernel_rfl) (by kernel_rfl) (by kernel_rfl) (by kernel_rfl) hS0 ?_
  refine K_skip (i := 13) rfl (by kernel_rfl) (by kernel_rfl) (by kernel_rfl) (by kernel_rfl) (by kernel_rfl) (by kernel_rfl) hS0 ?_
  refine K_skip (i := 14) rfl (by kernel_rfl) (by kernel_rfl) (by kernel_rfl) (by kernel_rfl) (by kernel_rfl) (by kernel_rfl) hS0 ?_
  refine K_skip (i := 15) rfl (by kernel_rfl) (by kernel_rfl) (by kernel_rfl) (by kernel_rfl) (by kernel_rfl) (by kernel_rfl) hS0 ?_
  refine K_take (i := 16) (v := .bool false) rfl (by kernel_rfl) (by kernel_rfl) (by kernel_rfl) (by kernel_rfl) (by kernel_rfl) (by kernel_rfl) (fun w' hS => by go_simp) hS0 ?_
  refine K_done (by kernel_rfl) ?_
  go_simp
  go_wp2_with fail
  go_loopw [9] (fun iv wr => ∃ k : Nat, iv = .int .i64 k ∧ k ≤ n1 ∧ k ≤ n2 ∧ Below W2.heap.size W2 wr) (fun iv _ => n1 - (intOf iv).toNat)
  case atStart => exact ⟨0, rfl, Nat.zero_le _, Nat.zero_le _, hS0⟩
  case round =>
    clear hS0
    obtain ⟨k, rfl, hk1, hk2, hBr⟩ := hrel
    have hBw := hBw2.trans (hBr.mono hBw2.size)
    have hX3 := hX2.below hBr hX2.lt
    have hY3 := hY2.below hBr hY2.lt
    have x1 := hX3.cell 1
    have y1 := hY3.cell 1
    have hk := known_any wr (hG.below hBw hG.size)
    by_cases h1 : k < n1
    · have h1' : (k : Int) < n1 := by omega
      by_cases h2 : k < n2
      · have h2' : (k : Int) < n2 := by omega
        obtain ⟨i1, hi1⟩ : ∃ i1, l1[k]? = some i1 := ⟨_, List.getElem?_eq_getElem (by have := HN.out.1; omega)⟩
        obtain ⟨i2, hi2⟩ : ∃ i2, l2[k]? = some i2 := ⟨_, List.getElem?_eq_getElem (by have := HN.out.2; omega)⟩
        obtain rfl := ha1 (fun e => by rw [e] at hi1; simp at hi1)
        obtain rfl := ha2 (fun e => by rw [e] at hi2; simp at hi2)
        have hIr1 := fun W (hB : Below w.heap.size w W) => hI1.below hB hb1
        have hIr2 := fun W (hB : Below w.heap.size w W) => hI2.below hB hb2
        have ht1 := text_all i1 wr (hG.below hBw hG.size) (hT.below hBw hsz1) (hu1 i1 (List.mem_of_getElem? hi1))
        have ht2 := fun W (hB : Below w.heap.size w W) => text_all i2 W (hG.below hB hG.size) (hT.below hB hsz1) (hu2 i2 (List.mem_of_getElem? hi2))
        have c0 := (hIr1 wr hBw).op k _ hi1
        have c1' := (hIr1 wr hBw).dst k _ hi1
        have c2' := (hIr1 wr hBw).src k _ hi1
        have c3 := (hIr1 wr hBw).off k _ hi1
        have c4 := (hIr1 wr hBw).imm k _ hi1
        have HI : Hid (l1[k]? = some i1 ∧ l2[k]? = some i2) := ⟨hi1, hi2⟩
        have HT : Hid (gA i1 = 0 → gA i2 = 0 → ((str (txA i1)).toList == (str (txA i2)).toList) = insEq i1 i2) := fun h h' => txA_same h h'
        clear hi1 hi2 hk
        generalize str (txA i1) = S1 at *
        generalize str (txA i2) = S2 at *
        generalize gA i1 = g1 at *
        generalize gA i2 = g2 at *
        go_wp2_with fail
        refine ht1.mono ?_
        rintro e W4 ⟨rfl, hB4⟩
        have hBr4 := hBr.trans (hB4.mono hBr.size)
        have hBw4 := hBw.trans (hB4.mono hBw.size)
        have y1' := (hY3.below hB4 hY3.lt).cell 1
        have d0 := (hIr2 W4 hBw4).op k _ HI.out.2
        have d1 := (hIr2 W4 hBw4).dst k _ HI.out.2
        have d2 := (hIr2 W4 hBw4).src k _ HI.out.2
        have d3 := (hIr2 W4 hBw4).off k _ HI.out.2
        have d4 := (hIr2 W4 hBw4).imm k _ HI.out.2
        clear c0 c1' c2' c3 c4 ht1 x1 y1
        go_wp2_with fail
        refine (ht2 W4 hBw4).mono ?_
        rintro e W5 ⟨rfl, hB5⟩
        have hBr5 := hBr4.trans (hB5.mono hBr4.size)
        have hBw5 := hBw4.trans (hB5.mono hBw4.size)
        clear d0 d1 d2 d3 d4 y1' ht2 hBr4 hBw4
        go_wp2_with fail
        have hS5 : Below W5.heap.size W5 W5.drew := (Below.refl _ _).drew
        have zx : ∀ X, Below W5.heap.size W5 X → X.cell? ⟨w.heap.size, 1, none⟩ = some (.slice (some ⟨b1, o1, none⟩) n1 p1) ∧ X.cell? ⟨w.heap.size + 1, 1, none⟩ = some (.slice (some ⟨b2, o2, none⟩) n2 p2) := fun X hX => ⟨(hX.cell (p := ⟨w.heap.size, 1, none⟩) (hX2.below hBr5 hX2.lt).lt).trans ((hX2.below hBr5 hX2.lt).cell 1), (hX.cell (p := ⟨w.heap.size + 1, 1, none⟩) (hY2.below hBr5 hY2.lt).lt).trans ((hY2.below hBr5 hY2.lt).cell 1)⟩
        have zi1 : ∀ X, Below W5.heap.size W5 X → InsAt X b1 o1 l1 := fun X hX => hIr1 X (hBw5.trans (hX.mono hBw5.size))
        have zi2 : ∀ X, Below W5.heap.size W5 X → InsAt X b2 o2 l2 := fun X hX => hIr2 X (hBw5.trans (hX.mono hBw5.size))
        clear hIr1 hIr2
        refine wp_region_K (S := fun X => Below W5.heap.size W5 X) (fun _ => true) (by kernel_rfl) ?_
        by_cases hg1 : g1 = 0
        · subst hg1
          by_cases hg2 : g2 = 0
          · subst hg2
            have hbb := HT.out rfl rfl
            obtain ⟨QQ, hQQ⟩ : ∃ QQ, QQ = insEq i1 i2 := ⟨_, rfl⟩
            rw [← hQQ] at hbb
            refine K_take (i := 0) (v := .int .i64 0) rfl (by kernel_rfl) (by kernel_rfl) (by kernel_rfl) (by kernel_rfl) (by kernel_rfl) (by kernel_rfl) (fun w' hS => by clear zx zi1 zi2; go_simp) hS5 ?_
            refine K_take (i := 1) (v := .bool true) rfl (by kernel_rfl) (by kernel_rfl) (by kernel_rfl) (by kernel_rfl) (by kernel_rfl) (by kernel_rfl) (fun w' hS => by clear zx zi1 zi2; go_simp) hS5 ?_
            refine K_take (i := 2) (v := .bool true) rfl (by kernel_rfl) (by kernel_rfl) (by kernel_rfl) (by kernel_rfl) (by kernel_rfl) (by kernel_rfl) (fun w' hS => by clear zx zi1 zi2; go_simp) hS5 ?_
            refine K_take (i := 3) (v := .int .i64 0) rfl (by kernel_rfl) (by kernel_rfl) (by kernel_rfl) (by kernel_rfl) (by kernel_rfl) (by kernel_rfl) (fun w' hS => by clear zx zi1 zi2; go_simp) hS5 ?_
            refine K_take (i := 4) (v := .bool true) rfl (by kernel_rfl) (by kernel_rfl) (by kernel_rfl) (by kernel_rfl) (by kernel_rfl) (by kernel_rfl) (fun w' hS => by clear zx zi1 zi2; go_simp) hS5 ?_
            refine K_take (i := 5) (v := .bool true) rfl (by kernel_rfl) (by kernel_rfl) (by kernel_rfl) (by kernel_rfl) (by kernel_rfl) (by kernel_rfl) (fun w' hS => by clear zx zi1 zi2; go_simp) hS5 ?_
            refine K_take (i := 6) (v := .bool true) rfl (by kernel_rfl) (by kernel_rfl) (by kernel_rfl) (by kernel_rfl) (by kernel_rfl) (by kernel_rfl) (fun w' hS => by clear zx zi1 zi2; go_simp) hS5 ?_
            refine K_take (i := 7) (v := .string S1) rfl (by kernel_rfl) (by kernel_rfl) (by kernel_rfl) (by kernel_rfl) (by kernel_rfl) (by kernel_rfl) (fun w' hS => by clear zx zi1 zi2; go_simp) hS5 ?_
            refine K_take (i := 8) (v := .string S2) rfl (by kernel_rfl) (by kernel_rfl) (by kernel_rfl) (by kernel_rfl) (by kernel_rfl) (by kernel_rfl) (fun w' hS => by clear zx zi1 zi2; go_simp) hS5 ?_
            refine K_take (i := 9) (v := .bool QQ) rfl (by kernel_rfl) (by kernel_rfl) (by kernel_rfl) (by kernel_rfl) (by kernel_rfl) (by kernel_rfl) (fun w' hS => by clear zx zi1 zi2; go_simp) hS5 ?_
            refine K_take (i := 10) (v := .pointer (some ⟨w.heap.size, 1, none⟩)) rfl (by kernel_rfl) (by kernel_rfl) (by kernel_rfl) (by kernel_rfl) (by kernel_rfl) (by kernel_rfl) (fun w' hS => by clear zx zi1 zi2; go_simp) hS5 ?_
            refine K_take (i := 11) (v := .slice (some ⟨b1, o1, none⟩) n1 p1) rfl (by kernel_rfl) (by kernel_rfl) (by kernel_rfl) (by kernel_rfl) (by kernel_rfl) (by kernel_rfl) (fun w' hS => by obtain ⟨q0, _⟩ := zx w' hS; clear zx zi1 zi2; go_simp) hS5 ?_
            refine K_take (i := 12) (v := .int .i64 (k : Int)) rfl (by kernel_rfl) (by kernel_rfl) (by kernel_rfl) (by kernel_rfl) (by kernel_rfl) (by kernel_rfl) (fun w' hS => by clear zx zi1 zi2; go_simp) hS5 ?_
            refine K_take (i := 13) (v := .pointer (some ⟨b1, o1 + k * 5, none⟩)) rfl (by kernel_rfl) (by kernel_rfl) (by kernel_rfl) (by kernel_rfl) (by kernel_rfl) (by kernel_rfl) (fun w' hS => by clear zx zi1 zi2; go_simp) hS5 ?_
            refine K_take (i := 14) (v := .agg #[.int .i64 i1.op, .int .i64 i1.dst, .int .i64 i1.src, .int .i64 i1.off, .int .u32 i1.imm]) rfl (by kernel_rfl) (by kernel_rfl) (by kernel_rfl) (by kernel_rfl) (by kernel_rfl) (by kernel_rfl) (fun w' hS => by have u0 := (zi1 w' hS).op k _ HI.out.1; have u1 := (zi1 w' hS).dst k _ HI.out.1; have u2 := (zi1 w' hS).src k _ HI.out.1; have u3 := (zi1 w' hS).off k _ HI.out.1; have u4 := (zi1 w' hS).imm k _ HI.out.1; clear zx zi1 zi2; go_simp) hS5 ?_
            refine K_take (i := 15) (v := .pointer (some ⟨w.heap.size + 1, 1, none⟩)) rfl (by kernel_rfl) (by kernel_rfl) (by kernel_rfl) (by kernel_rfl) (by kernel_rfl) (by kernel_rfl) (fun w' hS => by clear zx zi1 zi2; go_simp) hS5 ?_
            refine K_take (i := 16) (v := .slice (some ⟨b2, o2, none⟩) n2 p2) rfl (by kernel_rfl) (by kernel_rfl) (by kernel_rfl) (by kernel_rfl) (by kernel_rfl) (by kernel_rfl) (fun w' hS => by obtain ⟨_, q0⟩ := zx w' hS; clear zx zi1 zi2; go_simp) hS5 ?_
            refine K_take (i := 17) (v := .int .i64 (k : Int)) rfl (by kernel_rfl) (by kernel_rfl) (by kernel_rfl) (by kernel_rfl) (by kernel_rfl) (by kernel_rfl) (fun w' hS => by clear zx zi1 zi2; go_simp) hS5 ?_
            refine K_take (i := 18) (v := .pointer (some ⟨b2, o2 + k * 5, none⟩)) rfl (by kernel_rfl) (by kernel_rfl) (by kernel_rfl) (by kernel_rfl) (by kernel_rfl) (by kernel_rfl) (fun w' hS => by clear zx zi1 zi2; go_simp) hS5 ?_
            refine K_take (i := 19) (v := .agg #[.int .i64 i2.op, .int .i64 i2.dst, .int .i64 i2.src, .int .i64 i2.off, .int .u32 i2.imm]) rfl (by kernel_rfl) (by kernel_rfl) (by kernel_rfl) (by kernel_rfl) (by kernel_rfl) (by kernel_rfl) (fun w' hS => by have u0 := (zi2 w' hS).op k _ HI.out.2; have u1 := (zi2 w' hS).dst k _ HI.out.2; have u2 := (zi2 w' hS).src k _ HI.out.2; have u3 := (zi2 w' hS).off k _ HI.out.2; have u4 := (zi2 w' hS).imm k _ HI.out.2; clear zx zi1 zi2; go_simp) hS5 ?_
            refine K_take (i := 20) (v := .bool QQ) rfl (by kernel_rfl) (by kernel_rfl) (by kernel_rfl) (by kernel_rfl) (by kernel_rfl) (by kernel_rfl) (fun w' hS => by clear zx zi1 zi2; go_simp; exact eql_chain i1 i2 (fun b => Result.ok (Next.value (Value.bool b)) w')) hS5 ?_
            refine K_take (i := 21) (v := .bool false) rfl (by kernel_rfl) (by kernel_rfl) (by kernel_rfl) (by kernel_rfl) (by kernel_rfl) (by kernel_rfl) (fun w' hS => by clear zx zi1 zi2; go_simp) hS5 ?_
            refine K_take (i := 22) (v := .bool false) rfl (by kernel_rfl) (by kernel_rfl) (by kernel_rfl) (by kernel_rfl) (by kernel_rfl) (by kernel_rfl) (fun w' hS => by clear zx zi1 zi2; go_simp) hS5 ?_
            refine K_done (by kernel_rfl) ?_
            go_simp
            go_wp2_with fail
            go_roundw
            case rel => exact ⟨k + 1, by go_num, by omega, by omega, hBr5.trans (hS5.mono hBr5.size)⟩
            case measure => simp [intOf]; omega
          · have hq2 : (g2 == 0) = false := by simpa using hg2
            clear hg2
            refine K_take (i := 0) (v := .int .i64 0) rfl (by kernel_rfl) (by kernel_rfl) (by kernel_rfl) (by kernel_rfl) (by kernel_rfl) (by kernel_rfl) (fun w' hS => by go_simp) hS5 ?_
            refine K_take (i := 1) (v := .bool true) rfl (by kernel_rfl) (by kernel_rfl) (by kernel_rfl) (by kernel_rfl) (by kernel_rfl) (by kernel_rfl) (fun w' hS => by go_simp) hS5 ?_
            refine K_take (i := 2) (v := .bool true) rfl (by kernel_rfl) (by kernel_rfl) (by kernel_rfl) (by kernel_rfl) (by kernel_rfl) (by kernel_rfl) (fun w' hS => by go_simp) hS5 ?_
            refine K_take (i := 3) (v := .int .i64 g2) rfl (by kernel_rfl) (by kernel_rfl) (by kernel_rfl) (by kernel_rfl) (by kernel_rfl) (by kernel_rfl) (fun w' hS => by go_simp) hS5 ?_
            refine K_take (i := 4) (v := .bool false) rfl (by kernel_rfl) (by kernel_rfl) (by kernel_rfl) (by kernel_rfl) (by kernel_rfl) (by kernel_rfl) (fun w' hS => by go_simp) hS5 ?_
            refine K_take (i := 5) (v := .bool false) rfl (by kernel_rfl) (by kernel_rfl) (by kernel_rfl) (by kernel_rfl) (by kernel_rfl) (by kernel_rfl) (fun w' hS => by go_simp) hS5 ?_
            refine K_take (i := 6) (v := .bool false) rfl (by kernel_rfl) (by kernel_rfl) (by kernel_rfl) (by kernel_rfl) (by kernel_rfl) (by kernel_rfl) (fun w' hS => by go_simp) hS5 ?_
            refine K_skip (i := 7) rfl (by kernel_rfl) (by kernel_rfl) (by kernel_rfl) (by kernel_rfl) (by kernel_rfl) (by kernel_rfl) hS5 ?_
            refine K_skip (i := 8) rfl (by kernel_rfl) (by kernel_rfl) (by kernel_rfl) (by kernel_rfl) (by kernel_rfl) (by kernel_rfl) hS5 ?_
            refine K_skip (i := 9) rfl (by kernel_rfl) (by kernel_rfl) (by kernel_rfl) (by kernel_rfl) (by kernel_rfl) (by kernel_rfl) hS5 ?_
            refine K_skip (i := 10) rfl (by kernel_rfl) (by kernel_rfl) (by kernel_rfl) (by kernel_rfl) (by kernel_rfl) (by kernel_rfl) hS5 ?_
            refine K_skip (i := 11) rfl (by kernel_rfl) (by kernel_rfl) (by kernel_rfl) (by kernel_rfl) (by kernel_rfl) (by kernel_rfl) hS5 ?_
            refine K_skip (i := 12) rfl (by kernel_rfl) (by kernel_rfl) (by kernel_rfl) (by kernel_rfl) (by kernel_rfl) (by kernel_rfl) hS5 ?_
            refine K_skip (i := 13) rfl (by kernel_rfl) (by kernel_rfl) (by kernel_rfl) (by kernel_rfl) (by kernel_rfl) (by kernel_rfl) hS5 ?_
            refine K_skip (i := 14) rfl (by kernel_rfl) (by kernel_rfl) (by kernel_rfl) (by kernel_rfl) (by kernel_rfl) (by kernel_rfl) hS5 ?_
            refine K_skip (i := 15) rfl (by kernel_rfl) (by kernel_rfl) (by kernel_rfl) (by kernel_rfl) (by kernel_rfl) (by kernel_rfl) hS5 ?_
            refine K_skip (i := 16) rfl (by kernel_rfl) (by kernel_rfl) (by kernel_rfl) (by kernel_rfl) (by kernel_rfl) (by kernel_rfl) hS5 ?_
            refine K_skip (i := 17) rfl (by kernel_rfl) (by kernel_rfl) (by kernel_rfl) (by kernel_rfl) (by kernel_rfl) (by kernel_rfl) hS5 ?_
            refine K_skip (i := 18) rfl (by kernel_rfl) (by kernel_rfl) (by kernel_rfl) (by kernel_rfl) (by kernel_rfl) (by kernel_rfl) hS5 ?_
            refine K_skip (i := 19) rfl (by kernel_rfl) (by kernel_rfl) (by kernel_rfl) (by kernel_rfl) (by kernel_rfl) (by kernel_rfl) hS5 ?_
            refine K_skip (i := 20) rfl (by kernel_rfl) (by kernel_rfl) (by kernel_rfl) (by kernel_rfl) (by kernel_rfl) (by kernel_rfl) hS5 ?_
            refine K_skip (i := 21) rfl (by kernel_rfl) (by kernel_rfl) (by kernel_rfl) (by kernel_rfl) (by kernel_rfl) (by kernel_rfl) hS5 ?_
            refine K_take (i := 22) (v := .bool false) rfl (by kernel_rfl) (by kernel_rfl) (by kernel_rfl) (by kernel_rfl) (by kernel_rfl) (by kernel_rfl) (fun w' hS => by go_simp) hS5 ?_
            refine K_done (by kernel_rfl) ?_
            go_simp
            go_wp2_with fail
            go_roundw
            case rel => exact ⟨k + 1, by go_num, by omega, by omega, hBr5.trans (hS5.mono hBr5.size)⟩
            case measure => simp [intOf]; omega
        · have hq1 : (g1 == 0) = false := by simpa using hg1
          clear hg1
          refine K_take (i := 0) (v := .int .i64 g1) rfl (by kernel_rfl) (by kernel_rfl) (by kernel_rfl) (by kernel_rfl) (by kernel_rfl) (by kernel_rfl) (fun w' hS => by go_simp) hS5 ?_
          refine K_take (i := 1) (v := .bool false) rfl (by kernel_rfl) (by kernel_rfl) (by kernel_rfl) (by kernel_rfl) (by kernel_rfl) (by kernel_rfl) (fun w' hS => by go_simp) hS5 ?_
          refine K_take (i := 2) (v := .bool false) rfl (by kernel_rfl) (by kernel_rfl) (by kernel_rfl) (by kernel_rfl) (by kernel_rfl) (by kernel_rfl) (fun w' hS => by go_simp) hS5 ?_
          refine K_skip (i := 3) rfl (by kernel_rfl) (by kernel_rfl) (by kernel_rfl) (by kernel_rfl) (by kernel_rfl) (by kernel_rfl) hS5 ?_
          refine K_skip (i := 4) rfl (by kernel_rfl) (by kernel_rfl) (by kernel_rfl) (by kernel_rfl) (by kernel_rfl) (by kernel_rfl) hS5 ?_
          refine K_take (i := 5) (v := .bool false) rfl (by kernel_rfl) (by kernel_rfl) (by kernel_rfl) (by kernel_rfl) (by kernel_rfl) (by kernel_rfl) (fun w' hS => by go_simp) hS5 ?_
          refine K_take (i := 6) (v := .bool false) rfl (by kernel_rfl) (by kernel_rfl) (by kernel_rfl) (by kernel_rfl) (by kernel_rfl) (by kernel_rfl) (fun w' hS => by go_simp) hS5 ?_
          refine K_skip (i := 7) rfl (by kernel_rfl) (by kernel_rfl) (by kernel_rfl) (by kernel_rfl) (by kernel_rfl) (by kernel_rfl) hS5 ?_
          refine K_skip (i := 8) rfl (by kernel_rfl) (by kernel_rfl) (by kernel_rfl) (by kernel_rfl) (by kernel_rfl) (by kernel_rfl) hS5 ?_
          refine K_skip (i := 9) rfl (by kernel_rfl) (by kernel_rfl) (by kernel_rfl) (by kernel_rfl) (by kernel_rfl) (by kernel_rfl) hS5 ?_
          refine K_skip (i := 10) rfl (by kernel_rfl) (by kernel_rfl) (by kernel_rfl) (by kernel_rfl) (by kernel_rfl) (by kernel_rfl) hS5 ?_
          refine K_skip (i := 11) rfl (by kernel_rfl) (by kernel_rfl) (by kernel_rfl) (by kernel_rfl) (by kernel_rfl) (by kernel_rfl) hS5 ?_
          refine K_skip (i := 12) rfl (by kernel_rfl) (by kernel_rfl) (by kernel_rfl) (by kernel_rfl) (by kernel_rfl) (by kernel_rfl) hS5 ?_
          refine K_skip (i := 13) rfl (by kernel_rfl) (by kernel_rfl) (by kernel_rfl) (by kernel_rfl) (by kernel_rfl) (by kernel_rfl) hS5 ?_
          refine K_skip (i := 14) rfl (by kernel_rfl) (by kernel_rfl) (by kernel_rfl) (by kernel_rfl) (by kernel_rfl) (by kernel_rfl) hS5 ?_
          refine K_skip (i := 15) rfl (by kernel_rfl) (by kernel_rfl) (by kernel_rfl) (by kernel_rfl) (by kernel_rfl) (by kernel_rfl) hS5 ?_
          refine K_skip (i := 16) rfl (by kernel_rfl) (by kernel_rfl) (by kernel_rfl) (by kernel_rfl) (by kernel_rfl) (by kernel_rfl) hS5 ?_
          refine K_skip (i := 17) rfl (by kernel_rfl) (by kernel_rfl) (by kernel_rfl) (by kernel_rfl) (by kernel_rfl) (by kernel_rfl) hS5 ?_
          refine K_skip (i := 18) rfl (by kernel_rfl) (by kernel_rfl) (by kernel_rfl) (by kernel_rfl) (by kernel_rfl) (by kernel_rfl) hS5 ?_
          refine K_skip (i := 19) rfl (by kernel_rfl) (by kernel_rfl) (by kernel_rfl) (by kernel_rfl) (by kernel_rfl) (by kernel_rfl) hS5 ?_
          refine K_skip (i := 20) rfl (by kernel_rfl) (by kernel_rfl) (by kernel_rfl) (by kernel_rfl) (by kernel_rfl) (by kernel_rfl) hS5 ?_
          refine K_skip (i := 21) rfl (by kernel_rfl) (by kernel_rfl) (by kernel_rfl) (by kernel_rfl) (by kernel_rfl) (by kernel_rfl) hS5 ?_
          refine K_take (i := 22) (v := .bool false) rfl (by kernel_rfl) (by kernel_rfl) (by kernel_rfl) (by kernel_rfl) (by kernel_rfl) (by kernel_rfl) (fun w' hS => by go_simp) hS5 ?_
          refine K_done (by kernel_rfl) ?_
          go_simp
          go_wp2_with fail
          go_roundw
          case rel => exact ⟨k + 1, by go_num, by omega, by omega, hBr5.trans (hS5.mono hBr5.size)⟩
          case measure => simp [intOf]; omega
      · have h2' : ¬ (k : Int) < n2 := by omega
        go_wp2_with fail
        refine hk.mono ?_
        rintro e W4 ⟨rfl, hB4⟩
        go_wp2_with fail
        go_ret
        exact ⟨rfl, hBw.trans (hB4.mono hBw.size)⟩
    · have h1' : ¬ (k : Int) < n1 := by omega
      go_wp2_with fail
      refine hk.mono ?_
      rintro e W4 ⟨rfl, hB4⟩
      go_wp2_with fail
      go_ret
      exact ⟨rfl, hBw.trans (hB4.mono hBw.size)⟩
set_option maxRecDepth 10000 in
set_option maxHeartbeats 2000000 in
theorem unlike_oo (c1 c2 : Int) (s1 s2 : Value) (l1 l2 : List Ins) (w : World) (hP1 : Prg w s1 l1) (hP2 : Prg w s2 l2) (hG : Glob w) (hT : Tab w) (hu1 : ∀ i ∈ l1, i.imm < 4294967296) (hu2 : ∀ i ∈ l2, i.imm < 4294967296) (hl1 : l1.length ≤ 40) (hl2 : l2.length ≤ 40) (hE1 : chkE c1 l1 = 0) (hE2 : chkE c2 l2 = 0) :
    Calls Tryd.prog 10 #[.agg #[.int .i64 c1, s1], .agg #[.int .i64 c2, s2]] w fun e w' => e = .returned (.bool true) ∧ Below w.heap.size w w' := by
  have hsz1 := hT.size
  have hEn1 : ∀ W, Below w.heap.size w W → Calls Tryd.prog 13 #[.agg #[.int .i64 c1, s1]] W fun e w' => ∃ v, e = .returned (.tuple #[v, .int .i64 (chkE c1 l1)]) ∧ (chkE c1 l1 = 0 → Bytes w' v (progL c1.toNat l1)) ∧ Below W.heap.size W w' := fun W hB => by
    by_cases h : chkE c1 l1 = 0
    · refine (encode_ok c1 s1 l1 W (hP1.below hB) (hG.below hB hG.size) hu1 h).mono ?_
      rintro e w' ⟨v, rfl, hO, _, hB'⟩
      exact ⟨v, by rw [h], fun _ => hO.bytes (by have := hB.size; have := hB'.size; omega), hB'⟩
    · refine (encode_bad c1 s1 l1 W (hP1.below hB) (hG.below hB hG.size) (by omega) h).mono ?_
      rintro e w' ⟨rfl, hB'⟩
      exact ⟨_, rfl, fun h' => absurd h' h, hB'⟩
  have hEn2 : ∀ W, Below w.heap.size w W → Calls Tryd.prog 13 #[.agg #[.int .i64 c2, s2]] W fun e w' => ∃ v, e = .returned (.tuple #[v, .int .i64 (chkE c2 l2)]) ∧ (chkE c2 l2 = 0 → Bytes w' v (progL c2.toNat l2)) ∧ Below W.heap.size W w' := fun W hB => by
    by_cases h : chkE c2 l2 = 0
    · refine (encode_ok c2 s2 l2 W (hP2.below hB) (hG.below hB hG.size) hu2 h).mono ?_
      rintro e w' ⟨v, rfl, hO, _, hB'⟩
      exact ⟨v, by rw [h], fun _ => hO.bytes (by have := hB.size; have := hB'.size; omega), hB'⟩
    · refine (encode_bad c2 s2 l2 W (hP2.below hB) (hG.below hB hG.size) (by omega) h).mono ?_
      rintro e w' ⟨rfl, hB'⟩
      exact ⟨_, rfl, fun h' => absurd h' h, hB'⟩
  have hsm : ∀ W, Below w.heap.size w W → _ := fun W hB => rsame_any c1 c2 s1 s2 l1 l2 W (hP1.below hB) (hP2.below hB) (by omega)
  have hpi : Hid ((progL c1.toNat l1 = progL c2.toNat l2) ↔ (c1 = c2 ∧ l1 = l2)) := by
    obtain ⟨⟨z1, _⟩, _⟩ := chkE_zero hE1
    obtain ⟨⟨z2, _⟩, _⟩ := chkE_zero hE2
    obtain ⟨d1, rfl⟩ : ∃ d1 : Nat, c1 = d1 := ⟨c1.toNat, by omega⟩
    obtain ⟨d2, rfl⟩ : ∃ d2 : Nat, c2 = d2 := ⟨c2.toNat, by omega⟩
    show _ ↔ _
    rw [Int.toNat_natCast, Int.toNat_natCast]
    refine ⟨fun h => ?_, fun h => by rw [show d1 = d2 by omega, h.2]⟩
    obtain ⟨h1, h2⟩ := prog_inj hE1 hE2 hu1 hu2 h
    exact ⟨by omega, h2⟩
  obtain ⟨a1, p1, b1, o1, rfl, ha1, hI1, hb1⟩ := hP1
  obtain ⟨a2, p2, b2, o2, rfl, ha2, hI2, hb2⟩ := hP2
  obtain ⟨n1, hn1⟩ : ∃ n1, n1 = l1.length := ⟨_, rfl⟩
  obtain ⟨n2, hn2⟩ : ∃ n2, n2 = l2.length := ⟨_, rfl⟩
  have HN : Hid (n1 = l1.length ∧ n2 = l2.length) := ⟨hn1, hn2⟩
  have hl1' : ¬ (40 : Int) < n1 := by omega
  have hl2' : ¬ (40 : Int) < n2 := by omega
  simp only [← hn1] at hEn1
  simp only [← hn2] at hEn2
  simp only [← hn1, ← hn2] at hsm
  rw [← hn1, ← hn2]
  rw [hE1] at hEn1
  rw [hE2] at hEn2
  clear hE1 hE2
  obtain ⟨W0, hW0⟩ : ∃ W0, W0 = (w.alloc (.cells #[.int .i64 c1, .slice a1 n1 p1] 24)).alloc (.cells #[.int .i64 c2, .slice a2 n2 p2] 24) := ⟨_, rfl⟩
  have hB0 : Below w.heap.size w W0 := by rw [hW0]; exact ((Below.refl _ _).alloc (Nat.le_refl _) _).alloc (by simp) _
  have hX0 : Has W0 w.heap.size #[.int .i64 c1, .slice a1 n1 p1] 24 := by rw [hW0]; exact has_old (has_new _ _ _ _ rfl)
  have hY0 : Has W0 (w.heap.size + 1) #[.int .i64 c2, .slice a2 n2 p2] 24 := by rw [hW0]; exact has_new _ _ _ _ (by simp)
  clear hn1 hn2 hl1 hl2
  go_enter Tryd.func10, Tryd.ntmps10
  go_wp2_with fail
  rw [← hW0]
  clear hW0
  refine (hEn1 W0 hB0).mono ?_
  rintro e W1 ⟨v1, rfl, hv1, hB1⟩
  have hBw1 := hB0.trans (hB1.mono hB0.size)
  have hX1 := hX0.below hB1 hX0.lt
  have hY1 := hY0.below hB1 hY0.lt
  have y0 := hY1.cell 0
  have y1 := hY1.cell 1
  clear hX0 hY0 hB0 hB1 hEn1
  go_wp2_with fail
  refine (hEn2 W1 hBw1).mono ?_
  rintro e W2 ⟨v2, rfl, hv2, hB2⟩
  have hBw2 := hBw1.trans (hB2.mono hBw1.size)
  have hX2 := hX1.below hB2 hX1.lt
  have hY2 := hY1.below hB2 hY1.lt
  clear y0 y1 hX1 hY1 hBw1 hEn2
  go_wp2_with fail
  have hS0 : Below W2.heap.size W2 W2.drew := (Below.refl _ _).drew
  refine wp_region_K (S := fun X => Below W2.heap.size W2 X) (fun _ => true) (by kernel_rfl) ?_
  have z0 : ∀ X, Below W2.heap.size W2 X → X.cell? ⟨w.heap.size, 0, none⟩ = some (.int .i64 c1) ∧ X.cell? ⟨w.heap.size, 1, none⟩ = some (.slice a1 n1 p1) := fun X hX => ⟨(hX.cell (p := ⟨w.heap.size, 0, none⟩) hX2.lt).trans (hX2.cell 0), (hX.cell (p := ⟨w.heap.size, 1, none⟩) hX2.lt).trans (hX2.cell 1)⟩
  have z2 : ∀ X, Below W2.heap.size W2 X → X.cell? ⟨w.heap.size + 1, 0, none⟩ = some (.int .i64 c2) ∧ X.cell? ⟨w.heap.size + 1, 1, none⟩ = some (.slice a2 n2 p2) := fun X hX => ⟨(hX.cell (p := ⟨w.heap.size + 1, 0, none⟩) hY2.lt).trans (hY2.cell 0), (hX.cell (p := ⟨w.heap.size + 1, 1, none⟩) hY2.lt).trans (hY2.cell 1)⟩
  have hv1' := (hv1 (by first | trivial | rfl)).below hB2
  have hv2' := hv2 (by first | trivial | rfl)
  generalize progL c1.toNat l1 = D1 at *
  generalize progL c2.toNat l2 = D2 at *
  obtain ⟨B, hB⟩ : ∃ B, B = ((str D1).toList == (str D2).toList) := ⟨_, rfl⟩
  have HB : Hid (B = true ↔ (c1 = c2 ∧ l1 = l2)) := by
    show _ ↔ _
    rw [hB, ← hpi.out, ByteArray.toList_eq, ByteArray.toList_eq]
    exact beq_iff_eq
  refine K_take (i := 0) (v := .int .i64 0) rfl (by kernel_rfl) (by kernel_rfl) (by kernel_rfl) (by kernel_rfl) (by kernel_rfl) (by kernel_rfl) (fun w' hS => by go_simp) hS0 ?_
  refine K_take (i := 1) (v := .bool true) rfl (by kernel_rfl) (by kernel_rfl) (by kernel_rfl) (by kernel_rfl) (by kernel_rfl) (by kernel_rfl) (fun w' hS => by go_simp) hS0 ?_
  refine K_take (i := 2) (v := .bool true) rfl (by kernel_rfl) (by kernel_rfl) (by kernel_rfl) (by kernel_rfl) (by kernel_rfl) (by kernel_rfl) (fun w' hS => by go_simp) hS0 ?_
  refine K_take (i := 3) (v := .int .i64 0) rfl (by kernel_rfl) (by kernel_rfl) (by kernel_rfl) (by kernel_rfl) (by kernel_rfl) (by kernel_rfl) (fun w' hS => by go_simp) hS0 ?_
  refine K_take (i := 4) (v := .bool true) rfl (by kernel_rfl) (by kernel_rfl) (by kernel_rfl) (by kernel_rfl) (by kernel_rfl) (by kernel_rfl) (fun w' hS => by go_simp) hS0 ?_
  refine K_take (i := 5) (v := .bool true) rfl (by kernel_rfl) (by kernel_rfl) (by kernel_rfl) (by kernel_rfl) (by kernel_rfl) (by kernel_rfl) (fun w' hS => by go_simp) hS0 ?_
  refine K_take (i := 6) (v := .bool true) rfl (by kernel_rfl) (by kernel_rfl) (by kernel_rfl) (by kernel_rfl) (by kernel_rfl) (by kernel_rfl) (fun w' hS => by go_simp) hS0 ?_
  refine K_take (i := 7) (v := v1) rfl (by kernel_rfl) (by kernel_rfl) (by kernel_rfl) (by kernel_rfl) (by kernel_rfl) (by kernel_rfl) (fun w' hS => by go_simp) hS0 ?_
  refine K_take (i := 8) (v := .string (str D1)) rfl (by kernel_rfl) (by kernel_rfl) (by kernel_rfl) (by kernel_rfl) (by kernel_rfl) (by kernel_rfl) (fun w' hS => conv_run (v := v1) (l := D1) _ rfl (by kernel_rfl) (hv1'.below hS)) hS0 ?_
  refine K_take (i := 9) (v := v2) rfl (by kernel_rfl) (by kernel_rfl) (by kernel_rfl) (by kernel_rfl) (by kernel_rfl) (by kernel_rfl) (fun w' hS => by go_simp) hS0 ?_
  refine K_take (i := 10) (v := .string (str D2)) rfl (by kernel_rfl) (by kernel_rfl) (by kernel_rfl) (by kernel_rfl) (by kernel_rfl) (by kernel_rfl) (fun w' hS => conv_run (v := v2) (l := D2) _ rfl (by kernel_rfl) (hv2'.below hS)) hS0 ?_
  refine K_take (i := 11) (v := .bool B) rfl (by kernel_rfl) (by kernel_rfl) (by kernel_rfl) (by kernel_rfl) (by kernel_rfl) (by kernel_rfl) (fun w' hS => by go_simp) hS0 ?_
  refine K_take (i := 12) (v := .agg #[.int .i64 c1, .slice a1 n1 p1]) rfl (by kernel_rfl) (by kernel_rfl) (by kernel_rfl) (by kernel_rfl) (by kernel_rfl) (by kernel_rfl) (fun w' hS => by obtain ⟨q0, q1⟩ := z0 w' hS; clear z0 z2; go_simp) hS0 ?_
  refine K_take (i := 13) (v := .agg #[.int .i64 c2, .slice a2 n2 p2]) rfl (by kernel_rfl) (by kernel_rfl) (by kernel_rfl) (by kernel_rfl) (by kernel_rfl) (by kernel_rfl) (fun w' hS => by obtain ⟨q0, q1⟩ := z2 w' hS; clear z0 z2; go_simp) hS0 ?_
  refine K_next (i := 14) (by kernel_rfl) rfl (by kernel_rfl) (fun K hK => ?_)
  clear hB
  go_simp
  refine (hsm W2.drew hBw2.drew).mono ?_
  rintro e W3 ⟨b3, rfl, hb3, hB3⟩
  obtain rfl : b3 = B := by
    have h1 := hb3
    have h2 := HB.out
    cases b3 <;> cases B <;> simp_all
  have hS3 : Below W2.heap.size W2 W3 := hS0.trans (show Below W2.heap.size W2.drew W3 from hB3)
  refine hK _ _ (fun _ => hS3) ?_
  clear hK hb3 hsm
  refine K_take (i := 15) (v := .bool false) rfl (by kernel_rfl) (by kernel_rfl) (by kernel_rfl) (by kernel_rfl) (by kernel_rfl) (by kernel_rfl) (fun w' hS => by go_simp) hS3 ?_
  refine K_take (i := 16) (v := .bool false) rfl (by kernel_rfl) (by kernel_rfl) (by kernel_rfl) (by kernel_rfl) (by kernel_rfl) (by kernel_rfl) (fun w' hS => by go_simp) hS3 ?_
  refine K_done (by kernel_rfl) ?_
  go_simp
  go_wp2_with fail
  go_loopw [9] (fun iv wr => ∃ k : Nat, iv = .int .i64 k ∧ k ≤ n1 ∧ k ≤ n2 ∧ Below W2.heap.size W2 wr) (fun iv _ => n1 - (intOf iv).toNat)
  case atStart => exact ⟨0, rfl, Nat.zero_le _, Nat.zero_le _, hS3⟩
  case round =>
    clear hS3
    obtain ⟨k, rfl, hk1, hk2, hBr⟩ := hrel
    have hBw := hBw2.trans (hBr.mono hBw2.size)
    have hX3 := hX2.below hBr hX2.lt
    have hY3 := hY2.below hBr hY2.lt
    have x1 := hX3.cell 1
    have y1 := hY3.cell 1
    have hk := known_any wr (hG.below hBw hG.size)
    by_cases h1 : k < n1
    · have h1' : (k : Int) < n1 := by omega
      by_cases h2 : k < n2
      · have h2' : (k : Int) < n2 := by omega
        obtain ⟨i1, hi1⟩ : ∃ i1, l1[k]? = some i1 := ⟨_, List.getElem?_eq_getElem (by have := HN.out.1; omega)⟩
        obtain ⟨i2, hi2⟩ : ∃ i2, l2[k]? = some i2 := ⟨_, List.getElem?_eq_getElem (by have := HN.out.2; omega)⟩
        obtain rfl := ha1 (fun e => by rw [e] at hi1; simp at hi1)
        obtain rfl := ha2 (fun e => by rw [e] at hi2; simp at hi2)
        have hIr1 := fun W (hB : Below w.heap.size w W) => hI1.below hB hb1
        have hIr2 := fun W (hB : Below w.heap.size w W) => hI2.below hB hb2
        have ht1 := text_all i1 wr (hG.below hBw hG.size) (hT.below hBw hsz1) (hu1 i1 (List.mem_of_getElem? hi1))
        have ht2 := fun W (hB : Below w.heap.size w W) => text_all i2 W (hG.below hB hG.size) (hT.below hB hsz1) (hu2 i2 (List.mem_of_getElem? hi2))
        have c0 := (hIr1 wr hBw).op k _ hi1
        have c1' := (hIr1 wr hBw).dst k _ hi1
        have c2' := (hIr1 wr hBw).src k _ hi1
        have c3 := (hIr1 wr hBw).off k _ hi1
        have c4 := (hIr1 wr hBw).imm k _ hi1
        have HI : Hid (l1[k]? = some i1 ∧ l2[k]? = some i2) := ⟨hi1, hi2⟩
        have HT : Hid (gA i1 = 0 → gA i2 = 0 → ((str (txA i1)).toList == (str (txA i2)).toList) = insEq i1 i2) := fun h h' => txA_same h h'
        clear hi1 hi2 hk
        generalize str (txA i1) = S1 at *
        generalize str (txA i2) = S2 at *
        generalize gA i1 = g1 at *
        generalize gA i2 = g2 at *
        go_wp2_with fail
        refine ht1.mono ?_
        rintro e W4 ⟨rfl, hB4⟩
        have hBr4 := hBr.trans (hB4.mono hBr.size)
        have hBw4 := hBw.trans (hB4.mono hBw.size)
        have y1' := (hY3.below hB4 hY3.lt).cell 1
        have d0 := (hIr2 W4 hBw4).op k _ HI.out.2
        have d1 := (hIr2 W4 hBw4).dst k _ HI.out.2
        have d2 := (hIr2 W4 hBw4).src k _ HI.out.2
        have d3 := (hIr2 W4 hBw4).off k _ HI.out.2
        have d4 := (hIr2 W4 hBw4).imm k _ HI.out.2
        clear c0 c1' c2' c3 c4 ht1 x1 y1
        go_wp2_with fail
        refine (ht2 W4 hBw4).mono ?_
        rintro e W5 ⟨rfl, hB5⟩
        have hBr5 := hBr4.trans (hB5.mono hBr4.size)
        have hBw5 := hBw4.trans (hB5.mono hBw4.size)
        clear d0 d1 d2 d3 d4 y1' ht2 hBr4 hBw4
        go_wp2_with fail
        have hS5 : Below W5.heap.size W5 W5.drew := (Below.refl _ _).drew
        have zx : ∀ X, Below W5.heap.size W5 X → X.cell? ⟨w.heap.size, 1, none⟩ = some (.slice (some ⟨b1, o1, none⟩) n1 p1) ∧ X.cell? ⟨w.heap.size + 1, 1, none⟩ = some (.slice (some ⟨b2, o2, none⟩) n2 p2) := fun X hX => ⟨(hX.cell (p := ⟨w.heap.size, 1, none⟩) (hX2.below hBr5 hX2.lt).lt).trans ((hX2.below hBr5 hX2.lt).cell 1), (hX.cell (p := ⟨w.heap.size + 1, 1, none⟩) (hY2.below hBr5 hY2.lt).lt).trans ((hY2.below hBr5 hY2.lt).cell 1)⟩
        have zi1 : ∀ X, Below W5.heap.size W5 X → InsAt X b1 o1 l1 := fun X hX => hIr1 X (hBw5.trans (hX.mono hBw5.size))
        have zi2 : ∀ X, Below W5.heap.size W5 X → InsAt X b2 o2 l2 := fun X hX => hIr2 X (hBw5.trans (hX.mono hBw5.size))
        clear hIr1 hIr2
        refine wp_region_K (S := fun X => Below W5.heap.size W5 X) (fun _ => true) (by kernel_rfl) ?_
        by_cases hg1 : g1 = 0
        · subst hg1
          by_cases hg2 : g2 = 0
          · subst hg2
            have hbb := HT.out rfl rfl
            obtain ⟨QQ, hQQ⟩ : ∃ QQ, QQ = insEq i1 i2 := ⟨_, rfl⟩
            rw [← hQQ] at hbb
            refine K_take (i := 0) (v := .int .i64 0) rfl (by kernel_rfl) (by kernel_rfl) (by kernel_rfl) (by kernel_rfl) (by kernel_rfl) (by kernel_rfl) (fun w' hS => by clear zx zi1 zi2; go_simp) hS5 ?_
            refine K_take (i := 1) (v := .bool true) rfl (by kernel_rfl) (by kernel_rfl) (by kernel_rfl) (by kernel_rfl) (by kernel_rfl) (by kernel_rfl) (fun w' hS => by clear zx zi1 zi2; go_simp) hS5 ?_
            refine K_take (i := 2) (v := .bool true) rfl (by kernel_rfl) (by kernel_rfl) (by kernel_rfl) (by kernel_rfl) (by kernel_rfl) (by kernel_rfl) (fun w' hS => by clear zx zi1 zi2; go_simp) hS5 ?_
            refine K_take (i := 3) (v := .int .i64 0) rfl (by kernel_rfl) (by kernel_rfl) (by kernel_rfl) (by kernel_rfl) (by kernel_rfl) (by kernel_rfl) (fun w' hS => by clear zx zi1 zi2; go_simp) hS5 ?_
            refine K_take (i := 4) (v := .bool true) rfl (by kernel_rfl) (by kernel_rfl) (by kernel_rfl) (by kernel_rfl) (by kernel_rfl) (by kernel_rfl) (fun w' hS => by clear zx zi1 zi2; go_simp) hS5 ?_
            refine K_take (i := 5) (v := .bool true) rfl (by kernel_rfl) (by kernel_rfl) (by kernel_rfl) (by kernel_rfl) (by kernel_rfl) (by kernel_rfl) (fun w' hS => by clear zx zi1 zi2; go_simp) hS5 ?_
            refine K_take (i := 6) (v := .bool true) rfl (by kernel_rfl) (by kernel_rfl) (by kernel_rfl) (by kernel_rfl) (by kernel_rfl) (by kernel_rfl) (fun w' hS => by clear zx zi1 zi2; go_simp) hS5 ?_
            refine K_take (i := 7) (v := .string S1) rfl (by kernel_rfl) (by kernel_rfl) (by kernel_rfl) (by kernel_rfl) (by kernel_rfl) (by kernel_rfl) (fun w' hS => by clear zx zi1 zi2; go_simp) hS5 ?_
            refine K_take (i := 8) (v := .string S2) rfl (by kernel_rfl) (by kernel_rfl) (by kernel_rfl) (by kernel_rfl) (by kernel_rfl) (by kernel_rfl) (fun w' hS => by clear zx zi1 zi2; go_simp) hS5 ?_
            refine K_take (i := 9) (v := .bool QQ) rfl (by kernel_rfl) (by kernel_rfl) (by kernel_rfl) (by kernel_rfl) (by kernel_rfl) (by kernel_rfl) (fun w' hS => by clear zx zi1 zi2; go_simp) hS5 ?_
            refine K_take (i := 10) (v := .pointer (some ⟨w.heap.size, 1, none⟩)) rfl (by kernel_rfl) (by kernel_rfl) (by kernel_rfl) (by kernel_rfl) (by kernel_rfl) (by kernel_rfl) (fun w' hS => by clear zx zi1 zi2; go_simp) hS5 ?_
            refine K_take (i := 11) (v := .slice (some ⟨b1, o1, none⟩) n1 p1) rfl (by kernel_rfl) (by kernel_rfl) (by kernel_rfl) (by kernel_rfl) (by kernel_rfl) (by kernel_rfl) (fun w' hS => by obtain ⟨q0, _⟩ := zx w' hS; clear zx zi1 zi2; go_simp) hS5 ?_
            refine K_take (i := 12) (v := .int .i64 (k : Int)) rfl (by kernel_rfl) (by kernel_rfl) (by kernel_rfl) (by kernel_rfl) (by kernel_rfl) (by kernel_rfl) (fun w' hS => by clear zx zi1 zi2; go_simp) hS5 ?_
            refine K_take (i := 13) (v := .pointer (some ⟨b1, o1 + k * 5, none⟩)) rfl (by kernel_rfl) (by kernel_rfl) (by kernel_rfl) (by kernel_rfl) (by kernel_rfl) (by kernel_rfl) (fun w' hS => by clear zx zi1 zi2; go_simp) hS5 ?_
            refine K_take (i := 14) (v := .agg #[.int .i64 i1.op, .int .i64 i1.dst, .int .i64 i1.src, .int .i64 i1.off, .int .u32 i1.imm]) rfl (by kernel_rfl) (by kernel_rfl) (by kernel_rfl) (by kernel_rfl) (by kernel_rfl) (by kernel_rfl) (fun w' hS => by have u0 := (zi1 w' hS).op k _ HI.out.1; have u1 := (zi1 w' hS).dst k _ HI.out.1; have u2 := (zi1 w' hS).src k _ HI.out.1; have u3 := (zi1 w' hS).off k _ HI.out.1; have u4 := (zi1 w' hS).imm k _ HI.out.1; clear zx zi1 zi2; go_simp) hS5 ?_
            refine K_take (i := 15) (v := .pointer (some ⟨w.heap.size + 1, 1, none⟩)) rfl (by kernel_rfl) (by kernel_rfl) (by kernel_rfl) (by kernel_rfl) (by kernel_rfl) (by kernel_rfl) (fun w' hS => by clear zx zi1 zi2; go_simp) hS5 ?_
            refine K_take (i := 16) (v := .slice (some ⟨b2, o2, none⟩) n2 p2) rfl (by kernel_rfl) (by kernel_rfl) (by kernel_rfl) (by kernel_rfl) (by kernel_rfl) (by kernel_rfl) (fun w' hS => by obtain ⟨_, q0⟩ := zx w' hS; clear zx zi1 zi2; go_simp) hS5 ?_
            refine K_take (i := 17) (v := .int .i64 (k : Int)) rfl (by kernel_rfl) (by kernel_rfl) (by kernel_rfl) (by kernel_rfl) (by kernel_rfl) (by kernel_rfl) (fun w' hS => by clear zx zi1 zi2; go_simp) hS5 ?_
            refine K_take (i := 18) (v := .pointer (some ⟨b2, o2 + k * 5, none⟩)) rfl (by kernel_rfl) (by kernel_rfl) (by kernel_rfl) (by kernel_rfl) (by kernel_rfl) (by kernel_rfl) (fun w' hS => by clear zx zi1 zi2; go_simp) hS5 ?_
            refine K_take (i := 19) (v := .agg #[.int .i64 i2.op, .int .i64 i2.dst, .int .i64 i2.src, .int .i64 i2.off, .int .u32 i2.imm]) rfl (by kernel_rfl) (by kernel_rfl) (by kernel_rfl) (by kernel_rfl) (by kernel_rfl) (by kernel_rfl) (fun w' hS => by have u0 := (zi2 w' hS).op k _ HI.out.2; have u1 := (zi2 w' hS).dst k _ HI.out.2; have u2 := (zi2 w' hS).src k _ HI.out.2; have u3 := (zi2 w' hS).off k _ HI.out.2; have u4 := (zi2 w' hS).imm k _ HI.out.2; clear zx zi1 zi2; go_simp) hS5 ?_
            refine K_take (i := 20) (v := .bool QQ) rfl (by kernel_rfl) (by kernel_rfl) (by kernel_rfl) (by kernel_rfl) (by kernel_rfl) (by kernel_rfl) (fun w' hS => by clear zx zi1 zi2; go_simp; exact eql_chain i1 i2 (fun b => Result.ok (Next.value (Value.bool b)) w')) hS5 ?_
            refine K_take (i := 21) (v := .bool false) rfl (by kernel_rfl) (by kernel_rfl) (by kernel_rfl) (by kernel_rfl) (by kernel_rfl) (by kernel_rfl) (fun w' hS => by clear zx zi1 zi2; go_simp) hS5 ?_
            refine K_take (i := 22) (v := .bool false) rfl (by kernel_rfl) (by kernel_rfl) (by kernel_rfl) (by kernel_rfl) (by kernel_rfl) (by kernel_rfl) (fun w' hS => by clear zx zi1 zi2; go_simp) hS5 ?_
            refine K_done (by kernel_rfl) ?_
            go_simp
            go_wp2_with fail
            go_roundw
            case rel => exact ⟨k + 1, by go_num, by omega, by omega, hBr5.trans (hS5.mono hBr5.size)⟩
            case measure => simp [intOf]; omega
          · have hq2 : (g2 == 0) = false := by simpa using hg2
            clear hg2
            refine K_take (i := 0) (v := .int .i64 0) rfl (by kernel_rfl) (by kernel_rfl) (by kernel_rfl) (by kernel_rfl) (by kernel_rfl) (by kernel_rfl) (fun w' hS => by go_simp) hS5 ?_
            refine K_take (i := 1) (v := .bool true) rfl (by kernel_rfl) (by kernel_rfl) (by kernel_rfl) (by kernel_rfl) (by kernel_rfl) (by kernel_rfl) (fun w' hS => by go_simp) hS5 ?_
            refine K_take (i := 2) (v := .bool true) rfl (by kernel_rfl) (by kernel_rfl) (by kernel_rfl) (by kernel_rfl) (by kernel_rfl) (by kernel_rfl) (fun w' hS => by go_simp) hS5 ?_
            refine K_take (i := 3) (v := .int .i64 g2) rfl (by kernel_rfl) (by kernel_rfl) (by kernel_rfl) (by kernel_rfl) (by kernel_rfl) (by kernel_rfl) (fun w' hS => by go_simp) hS5 ?_
            refine K_take (i := 4) (v := .bool false) rfl (by kernel_rfl) (by kernel_rfl) (by kernel_rfl) (by kernel_rfl) (by kernel_rfl) (by kernel_rfl) (fun w' hS => by go_simp) hS5 ?_
            refine K_take (i := 5) (v := .bool false) rfl (by kernel_rfl) (by kernel_rfl) (by kernel_rfl) (by kernel_rfl) (by kernel_rfl) (by kernel_rfl) (fun w' hS => by go_simp) hS5 ?_
            refine K_take (i := 6) (v := .bool false) rfl (by kernel_rfl) (by kernel_rfl) (by kernel_rfl) (by kernel_rfl) (by kernel_rfl) (by kernel_rfl) (fun w' hS => by go_simp) hS5 ?_
            refine K_skip (i := 7) rfl (by kernel_rfl) (by kernel_rfl) (by kernel_rfl) (by kernel_rfl) (by kernel_rfl) (by kernel_rfl) hS5 ?_
            refine K_skip (i := 8) rfl (by kernel_rfl) (by kernel_rfl) (by kernel_rfl) (by kernel_rfl) (by kernel_rfl) (by kernel_rfl) hS5 ?_
            refine K_skip (i := 9) rfl (by kernel_rfl) (by kernel_rfl) (by kernel_rfl) (by kernel_rfl) (by kernel_rfl) (by kernel_rfl) hS5 ?_
            refine K_skip (i := 10) rfl (by kernel_rfl) (by kernel_rfl) (by kernel_rfl) (by kernel_rfl) (by kernel_rfl) (by kernel_rfl) hS5 ?_
            refine K_skip (i := 11) rfl (by kernel_rfl) (by kernel_rfl) (by kernel_rfl) (by kernel_rfl) (by kernel_rfl) (by kernel_rfl) hS5 ?_
            refine K_skip (i := 12) rfl (by kernel_rfl) (by kernel_rfl) (by kernel_rfl) (by kernel_rfl) (by kernel_rfl) (by kernel_rfl) hS5 ?_
            refine K_skip (i := 13) rfl (by kernel_rfl) (by kernel_rfl) (by kernel_rfl) (by kernel_rfl) (by kernel_rfl) (by kernel_rfl) hS5 ?_
            refine K_skip (i := 14) rfl (by kernel_rfl) (by kernel_rfl) (by kernel_rfl) (by kernel_rfl) (by kernel_rfl) (by kernel_rfl) hS5 ?_
            refine K_skip (i := 15) rfl (by kernel_rfl) (by kernel_rfl) (by kernel_rfl) (by kernel_rfl) (by kernel_rfl) (by kernel_rfl) hS5 ?_
            refine K_skip (i := 16) rfl (by kernel_rfl) (by kernel_rfl) (by kernel_rfl) (by kernel_rfl) (by kernel_rfl) (by kernel_rfl) hS5 ?_
            refine K_skip (i := 17) rfl (by kernel_rfl) (by kernel_rfl) (by kernel_rfl) (by kernel_rfl) (by kernel_rfl) (by kernel_rfl) hS5 ?_
            refine K_skip (i := 18) rfl (by kernel_rfl) (by kernel_rfl) (by kernel_rfl) (by kernel_rfl) (by kernel_rfl) (by kernel_rfl) hS5 ?_
            refine K_skip (i := 19) rfl (by kernel_rfl) (by kernel_rfl) (by kernel_rfl) (by kernel_rfl) (by kernel_rfl) (by kernel_rfl) hS5 ?_
            refine K_skip (i := 20) rfl (by kernel_rfl) (by kernel_rfl) (by kernel_rfl) (by kernel_rfl) (by kernel_rfl) (by kernel_rfl) hS5 ?_
            refine K_skip (i := 21) rfl (by kernel_rfl) (by kernel_rfl) (by kernel_rfl) (by kernel_rfl) (by kernel_rfl) (by kernel_rfl) hS5 ?_
            refine K_take (i := 22) (v := .bool false) rfl (by kernel_rfl) (by kernel_rfl) (by kernel_rfl) (by kernel_rfl) (by kernel_rfl) (by kernel_rfl) (fun w' hS => by go_simp) hS5 ?_
            refine K_done (by kernel_rfl) ?_
            go_simp
            go_wp2_with fail
            go_roundw
            case rel => exact ⟨k + 1, by go_num, by omega, by omega, hBr5.trans (hS5.mono hBr5.size)⟩
            case measure => simp [intOf]; omega
        · have hq1 : (g1 == 0) = false := by simpa using hg1
          clear hg1
          refine K_take (i := 0) (v := .int .i64 g1) rfl (by kernel_rfl) (by kernel_rfl) (by kernel_rfl) (by kernel_rfl) (by kernel_rfl) (by kernel_rfl) (fun w' hS => by go_simp) hS5 ?_
          refine K_take (i := 1) (v := .bool false) rfl (by kernel_rfl) (by kernel_rfl) (by kernel_rfl) (by kernel_rfl) (by kernel_rfl) (by kernel_rfl) (fun w' hS => by go_simp) hS5 ?_
          refine K_take (i := 2) (v := .bool false) rfl (by kernel_rfl) (by kernel_rfl) (by kernel_rfl) (by kernel_rfl) (by kernel_rfl) (by kernel_rfl) (fun w' hS => by go_simp) hS5 ?_
          refine K_skip (i := 3) rfl (by kernel_rfl) (by kernel_rfl) (by kernel_rfl) (by kernel_rfl) (by kernel_rfl) (by kernel_rfl) hS5 ?_
          refine K_skip (i := 4) rfl (by kernel_rfl) (by kernel_rfl) (by kernel_rfl) (by kernel_rfl) (by kernel_rfl) (by kernel_rfl) hS5 ?_
          refine K_take (i := 5) (v := .bool false) rfl (by kernel_rfl) (by kernel_rfl) (by kernel_rfl) (by kernel_rfl) (by kernel_rfl) (by kernel_rfl) (fun w' hS => by go_simp) hS5 ?_
          refine K_take (i := 6) (v := .bool false) rfl (by kernel_rfl) (by kernel_rfl) (by kernel_rfl) (by kernel_rfl) (by kernel_rfl) (by kernel_rfl) (fun w' hS => by go_simp) hS5 ?_
          refine K_skip (i := 7) rfl (by kernel_rfl) (by kernel_rfl) (by kernel_rfl) (by kernel_rfl) (by kernel_rfl) (by kernel_rfl) hS5 ?_
          refine K_skip (i := 8) rfl (by kernel_rfl) (by kernel_rfl) (by kernel_rfl) (by kernel_rfl) (by kernel_rfl) (by kernel_rfl) hS5 ?_
          refine K_skip (i := 9) rfl (by kernel_rfl) (by kernel_rfl) (by kernel_rfl) (by kernel_rfl) (by kernel_rfl) (by kernel_rfl) hS5 ?_
          refine K_skip (i := 10) rfl (by kernel_rfl) (by kernel_rfl) (by kernel_rfl) (by kernel_rfl) (by kernel_rfl) (by kernel_rfl) hS5 ?_
          refine K_skip (i := 11) rfl (by kernel_rfl) (by kernel_rfl) (by kernel_rfl) (by kernel_rfl) (by kernel_rfl) (by kernel_rfl) hS5 ?_
          refine K_skip (i := 12) rfl (by kernel_rfl) (by kernel_rfl) (by kernel_rfl) (by kernel_rfl) (by kernel_rfl) (by kernel_rfl) hS5 ?_
          refine K_skip (i := 13) rfl (by kernel_rfl) (by kernel_rfl) (by kernel_rfl) (by kernel_rfl) (by kernel_rfl) (by kernel_rfl) hS5 ?_
          refine K_skip (i := 14) rfl (by kernel_rfl) (by kernel_rfl) (by kernel_rfl) (by kernel_rfl) (by kernel_rfl) (by kernel_rfl) hS5 ?_
          refine K_skip (i := 15) rfl (by kernel_rfl) (by kernel_rfl) (by kernel_rfl) (by kernel_rfl) (by kernel_rfl) (by kernel_rfl) hS5 ?_
          refine K_skip (i := 16) rfl (by kernel_rfl) (by kernel_rfl) (by kernel_rfl) (by kernel_rfl) (by kernel_rfl) (by kernel_rfl) hS5 ?_
          refine K_skip (i := 17) rfl (by kernel_rfl) (by kernel_rfl) (by kernel_rfl) (by kernel_rfl) (by kernel_rfl) (by kernel_rfl) hS5 ?_
          refine K_skip (i := 18) rfl (by kernel_rfl) (by kernel_rfl) (by kernel_rfl) (by kernel_rfl) (by kernel_rfl) (by kernel_rfl) hS5 ?_
          refine K_skip (i := 19) rfl (by kernel_rfl) (by kernel_rfl) (by kernel_rfl) (by kernel_rfl) (by kernel_rfl) (by kernel_rfl) hS5 ?_
          refine K_skip (i := 20) rfl (by kernel_rfl) (by kernel_rfl) (by kernel_rfl) (by kernel_rfl) (by kernel_rfl) (by kernel_rfl) hS5 ?_
          refine K_skip (i := 21) rfl (by kernel_rfl) (by kernel_rfl) (by kernel_rfl) (by kernel_rfl) (by kernel_rfl) (by kernel_rfl) hS5 ?_
          refine K_take (i := 22) (v := .bool false) rfl (by kernel_rfl) (by kernel_rfl) (by kernel_rfl) (by kernel_rfl) (by kernel_rfl) (by kernel_rfl) (fun w' hS => by go_simp) hS5 ?_
          refine K_done (by kernel_rfl) ?_
          go_simp
          go_wp2_with fail
          go_roundw
          case rel => exact ⟨k + 1, by go_num, by omega, by omega, hBr5.trans (hS5.mono hBr5.size)⟩
          case measure => simp [intOf]; omega
      · have h2' : ¬ (k : Int) < n2 := by omega
        go_wp2_with fail
        refine hk.mono ?_
        rintro e W4 ⟨rfl, hB4⟩
        go_wp2_with fail
        go_ret
        exact ⟨rfl, hBw.trans (hB4.mono hBw.size)⟩
    · have h1' : ¬ (k : Int) < n1 := by omega
      go_wp2_with fail
      refine hk.mono ?_
      rintro e W4 ⟨rfl, hB4⟩
      go_wp2_with fail
      go_ret
      exact ⟨rfl, hBw.trans (hB4.mono hBw.size)⟩
theorem unlike_walk (c1 c2 : Int) (s1 s2 : Value) (l1 l2 : List Ins) (w : World) (hP1 : Prg w s1 l1) (hP2 : Prg w s2 l2) (hG : Glob w) (hT : Tab w) (hu1 : ∀ i ∈ l1, i.imm < 4294967296) (hu2 : ∀ i ∈ l2, i.imm < 4294967296) :
    Calls Tryd.prog 10 #[.agg #[.int .i64 c1, s1], .agg #[.int .i64 c2, s2]] w fun e w' => e = .returned (.bool true) ∧ Below w.heap.size w w' := by
  by_cases h1 : 40 < l1.length
  · exact unlike_long1 c1 c2 s1 s2 l1 l2 w hP1 hP2 hG h1
  by_cases h2 : 40 < l2.length
  · exact unlike_long2 c1 c2 s1 s2 l1 l2 w hP1 hP2 hG (by omega) h2
  by_cases e1 : chkE c1 l1 = 0
  · by_cases e2 : chkE c2 l2 = 0
    · exact unlike_oo c1 c2 s1 s2 l1 l2 w hP1 hP2 hG hT hu1 hu2 (by omega) (by omega) e1 e2
    · exact unlike_ob c1 c2 s1 s2 l1 l2 w hP1 hP2 hG hT hu1 hu2 (by omega) (by omega) e1 e2
  · exact unlike_b c1 c2 s1 s2 l1 l2 w hP1 hP2 hG hT hu1 hu2 (by omega) (by omega) e1
end Go.Proofs.YtoalchlokcphkaaDoor
