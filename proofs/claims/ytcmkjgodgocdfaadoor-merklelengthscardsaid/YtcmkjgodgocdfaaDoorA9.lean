/- (*Hash).Write: the bytes are behind those that were written. -/
import Derived.Test.YtcmkjgodgocdfaaDoorA8
import Derived.Test.YtcmkjgodgocdfaaDoorR2
import Derived.Shelf.Abstract
namespace Go.Proofs.YtcmkjgodgocdfaaDoor
open Go.RowKit
attribute [local go_sem] Oper.semAt_some

set_option maxHeartbeats 400000 in
theorem blocks_any (hb : Nat) (sv : Value) (a : Option Addr) (n cap : Nat) (hsv : sv = .slice a n cap) (w : World) :
    Calls Tryd.prog 58 #[.pointer (some ⟨hb, 0, none⟩), sv] w fun e w' => e = .returned (.func (.func 66) #[] #[.pointer (some ⟨w.heap.size + 1, 0, none⟩), .pointer (some ⟨w.heap.size, 0, none⟩)]) ∧
      w' = (w.alloc (.cells #[.pointer (some ⟨hb, 0, none⟩)] 88)).alloc (.cells #[sv] 77) := by
  subst hsv
  go_enter Tryd.func58, Tryd.ntmps58
  go_wp2
  go_ret
  exact ⟨rfl, rfl⟩

/-- A slice value whose bytes these are, in a block that is not b. -/
def SliceOf (w : World) (b : Nat) (v : Value) (d : List UInt8) : Prop :=
  ∃ a cap db o, v = .slice a d.length cap ∧ d.length ≤ cap ∧ (d ≠ [] → a = some ⟨db, o, none⟩) ∧ BytesIn w db o d ∧ db < w.heap.size ∧ db ≠ b

theorem run_loadAt_row (W : World) (g : Nat) (cs : Array Value) (hg : Has W g cs 99) (hs : cs.size = 64) :
    (Instr.loadAt 99 (.pointer (some ⟨g, 0, none⟩))).run Tryd.prog W = .ok (.agg cs) W := by
  simp only [Instr.loadAt, Instr.sureAddr, Sem.run_bind, Sem.run_pure, Result.andThen_ok, run_loadVar_row W g 99 99 cs (0, 0) _ hg Tryd.underlying99 rfl (by rw [hs]; kernel_rfl)]

set_option maxRecDepth 100000 in
set_option maxHeartbeats 2000000 in
theorem write_any (hb : Nat) (m d : List UInt8) (v : Value) (w : World) (hH : HashAt w hb m) (hv : SliceOf w hb v d) (hg : Glob w) (g1 : 2 ≤ hb) (hsm : m.length + d.length < 1000000000000) :
    Calls Tryd.prog 51 #[.pointer (some ⟨hb, 0, none⟩), v] w fun e w' => e = .returned (.int .i64 0) ∧ Ex hb w w' ∧ HashAt w' hb (m ++ d) := by
  obtain ⟨a, cap, db, o, rfl, hcap, ha, hd, hdl, hdb⟩ := hv
  have hlt := hH.lt
  obtain ⟨cs, hcs, hC⟩ := id hH
  have c73 : (w.alloc (.cells #[.pointer (some ⟨hb, 0, none⟩)] 88)).cell? ⟨hb, 73, none⟩ = some (.bool true) := ((has_old (o := .cells #[.pointer (some ⟨hb, 0, none⟩)] 88) hcs).cell 73).trans hC.made
  refine (callsIn_wide (n := 10)).1 ?_
  refine callsIn_of_wp_marks Tryd.func51 rfl trivial ?_ rfl
  simp only [Tryd.ntmps51, List.size_toArray, List.length_cons, List.length_nil, Nat.reduceAdd, Nat.reduceSub, Array.replicate_succ, Array.replicate_zero, List.push_toArray, List.append_toArray, List.nil_append, List.cons_append]
  gi_wp2_with (first
    | (refine ⟨trivial, ?_⟩; gi_at_call 57; refine (callsIn_wide.2 (none_any hb _ c73)).mono ?_; rintro e w' ⟨rfl, hw⟩; obtain rfl := hw.symm)
    | (refine ⟨trivial, ?_⟩; gi_at_call 58; refine (callsIn_wide.2 (blocks_any hb _ a d.length cap rfl _)).mono ?_; rintro e w' ⟨rfl, hw⟩; obtain rfl := hw.symm)
    | (gi_at_call 57; refine (callsIn_wide.2 (none_any hb _ c73)).mono ?_; rintro e w' ⟨rfl, hw⟩; obtain rfl := hw.symm)
    | (gi_at_call 58; refine (callsIn_wide.2 (blocks_any hb _ a d.length cap rfl _)).mono ?_; rintro e w' ⟨rfl, hw⟩; obtain rfl := hw.symm))
  refine named (p := Code.wpIn _ _ _ _ _ _) ?_
  intro W0 hW0
  have hz : W0.heap.size = w.heap.size + 3 := by rw [hW0]; simp
  have hB : Below w.heap.size w W0 := by
    rw [hW0]
    repeat (first | exact Below.refl _ _ | refine Below.alloc ?_ (by simp <;> omega) _)
  have x0 : Has W0 w.heap.size #[.pointer (some ⟨hb, 0, none⟩)] 88 := by
    rw [hW0]; repeat (first | (refine has_new _ _ _ _ ?_; simp; done) | refine has_old ?_)
  have x1 : Has W0 (w.heap.size + 1) #[.pointer (some ⟨hb, 0, none⟩)] 88 := by
    rw [hW0]; repeat (first | (refine has_new _ _ _ _ ?_; simp; done) | refine has_old ?_)
  have x2 : Has W0 (w.heap.size + 2) #[.slice a d.length cap] 77 := by
    rw [hW0]; repeat (first | (refine has_new _ _ _ _ ?_; simp; done) | refine has_old ?_)
  clear hW0 c73
  simp only [Nat.add_assoc, Nat.reduceAdd]
  refine wp_range (gf := 66) (lb := #[.pointer (some ⟨w.heap.size + 2, 0, none⟩), .pointer (some ⟨w.heap.size + 1, 0, none⟩)]) rfl (Go.Proofs.enters_of Tryd.func66 (by kernel_rfl) rfl)
    (fun W3 => Ex hb w W3 ∧ HashAt W3 hb (m ++ d) ∧ W3.heap[w.heap.size + 3]? = some (.deferred (some [])) ∧ w.heap.size + 5 ≤ W3.heap.size) ?call ?done
  case call =>
    intro fn W1 hB0 hz1 hD1 hl1
    rw [hz] at hz1 hD1 hl1 ⊢
    have hB1 : Below w.heap.size w W1 := hB.trans (hB0.mono (by omega))
    have hlt1 : hb < w.heap.size := hlt
    refine (seq_any 9 (w.heap.size + 3 + 1) hb (w.heap.size + 1) (w.heap.size + 2) db o cap a m d W1 ?_ (hH.below hB1 hlt) (x1.below hB0 (by omega)) (x2.below hB0 (by omega)) ha (fun j hj => (hB1.cell (p := ⟨db, o + j, none⟩) hdl).trans (hd j hj)) hcap (hg.below hB1 hg.size) hsm (by omega)
      (by omega) (by omega) (by omega) hdb (by omega) (by omega) (by omega) g1 (by omega) (by omega)).mono ?_
    · intro W cs s blk hh hst hbl hgl hrec hsz hxb
      rw [hl1] at hrec
      have hX := hxb w.heap.size (by omega) (x0.below hB0 (by omega))
      have hX' : Has W w.heap.size #[.pointer (some ⟨hb, 0, none⟩)] 88 := hX.trans (x0.below hB0 (by omega))
      refine yield_round' hrec rfl ?_
      clear hrec hl1
      intro RR RB hrec
      have hbs : (byteCells blk).size = 64 := by rw [byteCells_size, hbl]
      gi_wp2_with (refine wpListIn_store_row rfl 99 _ _ rfl W.heap.size (byteCells blk) rfl rfl 99 _ (has_new _ (zeroCells 64) _ _ rfl) (by rw [hbs]; kernel_rfl) (by rw [hbs]; simp [zeroCells]) (byteCells_one _) ?_)
      have hsz1 : w.heap.size + 5 ≤ W.heap.size := by omega
      refine named (p := fun X => (World.heap X)[w.heap.size + 3 + 1]? = some RR ∧ Code.wpIn _ _ _ _ _ _ (World.putObj X _ _)) ?_
      intro W4 hW4
      have hB4 : Below W.heap.size W W4 := by
        rw [hW4]; exact ((Below.refl _ _).alloc (Nat.le_refl _) _).trans ⟨rfl, rfl, rfl, by simp, fun j hj => setRow_other _ _ _ _ (by omega)⟩
      have hk4 : Has W4 W.heap.size (byteCells blk) 99 := by
        rw [hW4]; exact setRow_heap _ _ _ _ _ _ (has_new _ (zeroCells 64) _ _ rfl)
      clear hW4
      refine ⟨(hB4.block _ (by omega)).trans hrec, ?_⟩
      have hlt4 := hk4.lt
      refine named (p := Code.wpIn _ _ _ _ _ _) ?_
      intro W5 hW5
      have oth : ∀ k : Nat, k ≠ w.heap.size + 3 + 1 → W5.heap[k]? = W4.heap[k]? := fun k hk => by rw [hW5]; exact World.putObj_heap_other hk
      have hr5 : W5.heap[w.heap.size + 3 + 1]? = some RB := by rw [hW5]; exact World.putObj_heap_same (by omega)
      have hs5 : W5.heap.size = W4.heap.size := by rw [hW5]; simp
      have hk5 : Has W5 W.heap.size (byteCells blk) 99 := (oth _ (by omega)).trans hk4
      have hh5 : Has W5 hb cs 101 := (oth _ (by omega)).trans (hh.below hB4 (by omega))
      have hx5 : Has W5 w.heap.size #[.pointer (some ⟨hb, 0, none⟩)] 88 := (oth _ (by omega)).trans (hX'.below hB4 (by omega))
      have hg5 : Glob W5 := by
        have g4 := hgl.below hB4 hgl.size
        exact ⟨fun j hj => (World.cell?_of_block (w := W4) (oth 0 (by omega))).trans (g4.sq j hj), fun j hj => (World.cell?_of_block (w := W4) (oth 1 (by omega))).trans (g4.cu j hj), by rw [hs5]; exact g4.size⟩
      have hos : W5.os = W4.os ∧ W5.tape = W4.tape ∧ W5.output = W4.output := by rw [hW5]; exact ⟨rfl, rfl, rfl⟩
      have HO : Hid ((∀ k : Nat, k ≠ w.heap.size + 3 + 1 → W5.heap[k]? = W4.heap[k]?) ∧ W5.heap.size = W4.heap.size ∧ W5.os = W4.os ∧ W5.tape = W4.tape ∧ W5.output = W4.output) := ⟨oth, hs5, hos⟩
      clear hW5 oth hs5 hos
      have cx5 := hx5.one
      gi_wp2_with fail
      refine wpIn_region_last_lit (by simp) (by kernel_rfl) (by kernel_rfl) (by kernel_rfl) (by kernel_rfl) (by kernel_rfl) ?_
      simp only [List.dropLast, Act.put, List.length_cons, List.length_nil, Nat.reduceAdd, Nat.reduceSub]
      repeat (go_big_quiet_step (fail))
      refine wpQuiet_load_row rfl 99 _ rfl ⟨W.heap.size, 0, none⟩ rfl (byteCells blk) (fun w hw => by obtain ⟨k, rfl⟩ := hw; exact run_loadAt_row _ _ _ (hk5.drewN k) hbs) ?_
      refine wpQuiet_nil ?_
      intro k
      refine wpOpIn_step rfl (fun K hK => ?_)
      gi_wp2_with fail
      refine ⟨trivial, (CallsIn.inRound _ (callsIn_wide.2 (take_any s blk hbl hb 101 cs _ (hh5.drewN k) hst ⟨hg5.sq, hg5.cu, hg5.size⟩))).mono ?_⟩
      rintro e W6 ⟨rfl, hE6, cs6, hc6, hU6⟩
      refine hK _ _ ?_
      gi_wp2_with fail
      obtain ⟨oth, hs5, ho1, ho2, ho3⟩ := HO.out
      have hlt5 : w.heap.size + 3 + 1 < W5.heap.size := by omega
      have h6s := hE6.size
      have h6s' : W5.heap.size ≤ W6.heap.size := h6s
      have hl6 : W6.heap[w.heap.size + 3 + 1]? = some RB := (hE6.block _ (by show _ < W5.heap.size; omega) (by omega)).trans hr5
      refine ⟨hl6, ?_, cs6, ?_, hU6⟩
      · refine ⟨hE6.os.trans (ho1.trans hB4.os), hE6.tape.trans (ho2.trans hB4.tape), hE6.output.trans (ho3.trans hB4.output), ?_, fun q hq hqb => ?_⟩
        · have := hB4.size; simp only [World.putObj_size]; omega
        · by_cases e : q = w.heap.size + 3 + 1
          · subst e
            rw [World.putObj_heap_same (by omega), hrec]
          · rw [World.putObj_heap_other e, hE6.block q (by show _ < W5.heap.size; have := hB4.size; omega) hqb]
            show W5.heap[q]? = _
            rw [oth q e]
            exact hB4.block q hq
      · unfold Has; rw [World.putObj_heap_other (by omega)]; exact hc6
    · rintro e W3 ⟨rfl, hE3, hH3⟩
      refine ⟨⟨_, rfl⟩, hE3.block _ (by omega) (by omega) (by omega), ?_, hH3, (hE3.block _ (by omega) (by omega) (by omega)).trans hD1, by have := hE3.size; omega⟩
      exact ⟨hE3.os.trans hB1.os, hE3.tape.trans hB1.tape, hE3.output.trans hB1.output, Nat.le_trans hB1.size hE3.size, fun k hk hkb => (hE3.block k (by omega) hkb (by omega)).trans (hB1.block k hk)⟩
  case done =>
    rintro W3 ob ⟨hE3, hH3, hD3, hs3⟩
    rw [hz]
    have hK : (W3.putObj (w.heap.size + 3 + 1) ob).heap[w.heap.size + 3]? = some (.deferred (some [])) := (World.putObj_heap_other (by omega)).trans hD3
    gi_wp2
    refine ⟨by simp, .inl ⟨_, _, rfl, run_takeDeferred hK, ?_⟩⟩
    refine ⟨_, results_tmp rfl _ _ _, rfl, ?_, ?_⟩
    · refine ⟨hE3.os, hE3.tape, hE3.output, by simpa using hE3.size, fun k hk hkb => ?_⟩
      rw [World.putObj_heap_other (by omega), World.putObj_heap_other (by omega)]
      exact hE3.block k hk hkb
    · obtain ⟨c3, h3, r3⟩ := hH3
      exact ⟨c3, by unfold Has; rw [World.putObj_heap_other (by omega), World.putObj_heap_other (by omega)]; exact h3, r3⟩
end Go.Proofs.YtcmkjgodgocdfaaDoor
