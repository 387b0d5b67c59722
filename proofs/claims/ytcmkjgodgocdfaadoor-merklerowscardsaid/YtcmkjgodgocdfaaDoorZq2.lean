/- Texts put together, in build order: A9, B1, B2, R3, U0, E1, E2, E3, E4, G0, G2, G1. -/
import Derived.Test.YtcmkjgodgocdfaaDoorZq1
import Derived.Shelf.Abstract
import Derived.Lib.ConvBytes
import Derived.Lib.SlBytesConst
import Derived.Laws.AppendOwn
import Derived.Deep.RegionHeld3
import Derived.BigQuiet
/- (*Hash).Write: the bytes are behind those that were written. -/
namespace Go.Proofs.YtcmkjgodgocdfaaDoor
open Go.RowKit
attribute [local go_sem] Oper.semAt_some

set_option maxHeartbeats 400000 in
theorem blocks_any (hb : Nat) (sv : Value) (a : Option Addr) (n cap : Nat) (hsv : sv = .slice a n cap) (w : World) :
    Calls Tryd.prog 58 #[.pointer (some ⟨hb, 0, none⟩), sv] w fun e w' => e = .returned (.func (.func 66) #[] #[.pointer (some ⟨w.heap.size + 1, 0, none⟩), .pointer (some ⟨w.heap.size, 0, none⟩)]) ∧
      w' = (w.alloc (.cells #[.pointer (some ⟨hb, 0, none⟩)] 88)).alloc (.cells #[sv] 77) := by
  subst hsv
  go_enter Tryd.func58, Tryd.ntmps58
  go_wp2
  go_ret
  exact ⟨rfl, rfl⟩

/-- A slice value whose bytes these are, in a block that is not b. -/
def SliceOf (w : World) (b : Nat) (v : Value) (d : List UInt8) : Prop :=
  ∃ a cap db o, v = .slice a d.length cap ∧ d.length ≤ cap ∧ (d ≠ [] → a = some ⟨db, o, none⟩) ∧ BytesIn w db o d ∧ db < w.heap.size ∧ db ≠ b

theorem run_loadAt_row (W : World) (g : Nat) (cs : Array Value) (hg : Has W g cs 99) (hs : cs.size = 64) :
    (Instr.loadAt 99 (.pointer (some ⟨g, 0, none⟩))).run Tryd.prog W = .ok (.agg cs) W := by
  simp only [Instr.loadAt, Instr.sureAddr, Sem.run_bind, Sem.run_pure, Result.andThen_ok, run_loadVar_row W g 99 99 cs (0, 0) _ hg Tryd.underlying99 rfl (by rw [hs]; kernel_rfl)]

set_option maxRecDepth 100000 in
set_option maxHeartbeats 2000000 in
theorem write_any (hb : Nat) (m d : List UInt8) (v : Value) (w : World) (hH : HashAt w hb m) (hv : SliceOf w hb v d) (hg : Glob w) (g1 : 2 ≤ hb) (hsm : m.length + d.length < 1000000000000) :
    Calls Tryd.prog 51 #[.pointer (some ⟨hb, 0, none⟩), v] w fun e w' => e = .returned (.int .i64 0) ∧ Ex hb w w' ∧ HashAt w' hb (m ++ d) := by
  obtain ⟨a, cap, db, o, rfl, hcap, ha, hd, hdl, hdb⟩ := hv
  have hlt := hH.lt
  obtain ⟨cs, hcs, hC⟩ := id hH
  have c73 : (w.alloc (.cells #[.pointer (some ⟨hb, 0, none⟩)] 88)).cell? ⟨hb, 73, none⟩ = some (.bool true) := ((has_old (o := .cells #[.pointer (some ⟨hb, 0, none⟩)] 88) hcs).cell 73).trans hC.made
  refine (callsIn_wide (n := 10)).1 ?_
  refine callsIn_of_wp_marks Tryd.func51 rfl trivial ?_ rfl
  simp only [Tryd.ntmps51, List.size_toArray, List.length_cons, List.length_nil, Nat.reduceAdd, Nat.reduceSub, Array.replicate_succ, Array.replicate_zero, List.push_toArray, List.append_toArray, List.nil_append, List.cons_append]
  gi_wp2_with (first
    | (refine ⟨trivial, ?_⟩; gi_at_call 57; refine (callsIn_wide.2 (none_any hb _ c73)).mono ?_; rintro e w' ⟨rfl, hw⟩; obtain rfl := hw.symm)
    | (refine ⟨trivial, ?_⟩; gi_at_call 58; refine (callsIn_wide.2 (blocks_any hb _ a d.length cap rfl _)).mono ?_; rintro e w' ⟨rfl, hw⟩; obtain rfl := hw.symm)
    | (gi_at_call 57; refine (callsIn_wide.2 (none_any hb _ c73)).mono ?_; rintro e w' ⟨rfl, hw⟩; obtain rfl := hw.symm)
    | (gi_at_call 58; refine (callsIn_wide.2 (blocks_any hb _ a d.length cap rfl _)).mono ?_; rintro e w' ⟨rfl, hw⟩; obtain rfl := hw.symm))
  refine named (p := Code.wpIn _ _ _ _ _ _) ?_
  intro W0 hW0
  have hz : W0.heap.size = w.heap.size + 3 := by rw [hW0]; simp
  have hB : Below w.heap.size w W0 := by
    rw [hW0]
    repeat (first | exact Below.refl _ _ | refine Below.alloc ?_ (by simp <;> omega) _)
  have x0 : Has W0 w.heap.size #[.pointer (some ⟨hb, 0, none⟩)] 88 := by
    rw [hW0]; repeat (first | (refine has_new _ _ _ _ ?_; simp; done) | refine has_old ?_)
  have x1 : Has W0 (w.heap.size + 1) #[.pointer (some ⟨hb, 0, none⟩)] 88 := by
    rw [hW0]; repeat (first | (refine has_new _ _ _ _ ?_; simp; done) | refine has_old ?_)
  have x2 : Has W0 (w.heap.size + 2) #[.slice a d.length cap] 77 := by
    rw [hW0]; repeat (first | (refine has_new _ _ _ _ ?_; simp; done) | refine has_old ?_)
  clear hW0 c73
  simp only [Nat.add_assoc, Nat.reduceAdd]
  refine wp_range (gf := 66) (lb := #[.pointer (some ⟨w.heap.size + 2, 0, none⟩), .pointer (some ⟨w.heap.size + 1, 0, none⟩)]) rfl (Go.Proofs.enters_of Tryd.func66 (by kernel_rfl) rfl)
    (fun W3 => Ex hb w W3 ∧ HashAt W3 hb (m ++ d) ∧ W3.heap[w.heap.size + 3]? = some (.deferred (some [])) ∧ w.heap.size + 5 ≤ W3.heap.size) ?call ?done
  case call =>
    intro fn W1 hB0 hz1 hD1 hl1
    rw [hz] at hz1 hD1 hl1 ⊢
    have hB1 : Below w.heap.size w W1 := hB.trans (hB0.mono (by omega))
    have hlt1 : hb < w.heap.size := hlt
    refine (seq_any 9 (w.heap.size + 3 + 1) hb (w.heap.size + 1) (w.heap.size + 2) db o cap a m d W1 ?_ (hH.below hB1 hlt) (x1.below hB0 (by omega)) (x2.below hB0 (by omega)) ha (fun j hj => (hB1.cell (p := ⟨db, o + j, none⟩) hdl).trans (hd j hj)) hcap (hg.below hB1 hg.size) hsm (by omega)
      (by omega) (by omega) (by omega) hdb (by omega) (by omega) (by omega) g1 (by omega) (by omega)).mono ?_
    · intro W cs s blk hh hst hbl hgl hrec hsz hxb
      rw [hl1] at hrec
      have hX := hxb w.heap.size (by omega) (x0.below hB0 (by omega))
      have hX' : Has W w.heap.size #[.pointer (some ⟨hb, 0, none⟩)] 88 := hX.trans (x0.below hB0 (by omega))
      refine yield_round' hrec rfl ?_
      clear hrec hl1
      intro RR RB hrec
      have hbs : (byteCells blk).size = 64 := by rw [byteCells_size, hbl]
      gi_wp2_with (refine wpListIn_store_row rfl 99 _ _ rfl W.heap.size (byteCells blk) rfl rfl 99 _ (has_new _ (zeroCells 64) _ _ rfl) (by rw [hbs]; kernel_rfl) (by rw [hbs]; simp [zeroCells]) (byteCells_one _) ?_)
      have hsz1 : w.heap.size + 5 ≤ W.heap.size := by omega
      refine named (p := fun X => (World.heap X)[w.heap.size + 3 + 1]? = some RR ∧ Code.wpIn _ _ _ _ _ _ (World.putObj X _ _)) ?_
      intro W4 hW4
      have hB4 : Below W.heap.size W W4 := by
        rw [hW4]; exact ((Below.refl _ _).alloc (Nat.le_refl _) _).trans ⟨rfl, rfl, rfl, by simp, fun j hj => setRow_other _ _ _ _ (by omega)⟩
      have hk4 : Has W4 W.heap.size (byteCells blk) 99 := by
        rw [hW4]; exact setRow_heap _ _ _ _ _ _ (has_new _ (zeroCells 64) _ _ rfl)
      clear hW4
      refine ⟨(hB4.block _ (by omega)).trans hrec, ?_⟩
      have hlt4 := hk4.lt
      refine named (p := Code.wpIn _ _ _ _ _ _) ?_
      intro W5 hW5
      have oth : ∀ k : Nat, k ≠ w.heap.size + 3 + 1 → W5.heap[k]? = W4.heap[k]? := fun k hk => by rw [hW5]; exact World.putObj_heap_other hk
      have hr5 : W5.heap[w.heap.size + 3 + 1]? = some RB := by rw [hW5]; exact World.putObj_heap_same (by omega)
      have hs5 : W5.heap.size = W4.heap.size := by rw [hW5]; simp
      have hk5 : Has W5 W.heap.size (byteCells blk) 99 := (oth _ (by omega)).trans hk4
      have hh5 : Has W5 hb cs 101 := (oth _ (by omega)).trans (hh.below hB4 (by omega))
      have hx5 : Has W5 w.heap.size #[.pointer (some ⟨hb, 0, none⟩)] 88 := (oth _ (by omega)).trans (hX'.below hB4 (by omega))
      have hg5 : Glob W5 := by
        have g4 := hgl.below hB4 hgl.size
        exact ⟨fun j hj => (World.cell?_of_block (w := W4) (oth 0 (by omega))).trans (g4.sq j hj), fun j hj => (World.cell?_of_block (w := W4) (oth 1 (by omega))).trans (g4.cu j hj), by rw [hs5]; exact g4.size⟩
      have hos : W5.os = W4.os ∧ W5.tape = W4.tape ∧ W5.output = W4.output := by rw [hW5]; exact ⟨rfl, rfl, rfl⟩
      have HO : Hid ((∀ k : Nat, k ≠ w.heap.size + 3 + 1 → W5.heap[k]? = W4.heap[k]?) ∧ W5.heap.size = W4.heap.size ∧ W5.os = W4.os ∧ W5.tape = W4.tape ∧ W5.output = W4.output) := ⟨oth, hs5, hos⟩
      clear hW5 oth hs5 hos
      have cx5 := hx5.one
      gi_wp2_with fail
      refine wpIn_region_last_lit (by simp) (by kernel_rfl) (by kernel_rfl) (by kernel_rfl) (by kernel_rfl) (by kernel_rfl) ?_
      simp only [List.dropLast, Act.put, List.length_cons, List.length_nil, Nat.reduceAdd, Nat.reduceSub]
      repeat (go_big_quiet_step (fail))
      refine wpQuiet_load_row rfl 99 _ rfl ⟨W.heap.size, 0, none⟩ rfl (byteCells blk) (fun w hw => by obtain ⟨k, rfl⟩ := hw; exact run_loadAt_row _ _ _ (hk5.drewN k) hbs) ?_
      refine wpQuiet_nil ?_
      intro k
      refine wpOpIn_step rfl (fun K hK => ?_)
      gi_wp2_with fail
      refine ⟨trivial, (CallsIn.inRound _ (callsIn_wide.2 (take_any s blk hbl hb 101 cs _ (hh5.drewN k) hst ⟨hg5.sq, hg5.cu, hg5.size⟩))).mono ?_⟩
      rintro e W6 ⟨rfl, hE6, cs6, hc6, hU6⟩
      refine hK _ _ ?_
      gi_wp2_with fail
      obtain ⟨oth, hs5, ho1, ho2, ho3⟩ := HO.out
      have hlt5 : w.heap.size + 3 + 1 < W5.heap.size := by omega
      have h6s := hE6.size
      have h6s' : W5.heap.size ≤ W6.heap.size := h6s
      have hl6 : W6.heap[w.heap.size + 3 + 1]? = some RB := (hE6.block _ (by show _ < W5.heap.size; omega) (by omega)).trans hr5
      refine ⟨hl6, ?_, cs6, ?_, hU6⟩
      · refine ⟨hE6.os.trans (ho1.trans hB4.os), hE6.tape.trans (ho2.trans hB4.tape), hE6.output.trans (ho3.trans hB4.output), ?_, fun q hq hqb => ?_⟩
        · have := hB4.size; simp only [World.putObj_size]; omega
        · by_cases e : q = w.heap.size + 3 + 1
          · subst e
            rw [World.putObj_heap_same (by omega), hrec]
          · rw [World.putObj_heap_other e, hE6.block q (by show _ < W5.heap.size; have := hB4.size; omega) hqb]
            show W5.heap[q]? = _
            rw [oth q e]
            exact hB4.block q hq
      · unfold Has; rw [World.putObj_heap_other (by omega)]; exact hc6
    · rintro e W3 ⟨rfl, hE3, hH3⟩
      refine ⟨⟨_, rfl⟩, hE3.block _ (by omega) (by omega) (by omega), ?_, hH3, (hE3.block _ (by omega) (by omega) (by omega)).trans hD1, by have := hE3.size; omega⟩
      exact ⟨hE3.os.trans hB1.os, hE3.tape.trans hB1.tape, hE3.output.trans hB1.output, Nat.le_trans hB1.size hE3.size, fun k hk hkb => (hE3.block k (by omega) hkb (by omega)).trans (hB1.block k hk)⟩
  case done =>
    rintro W3 ob ⟨hE3, hH3, hD3, hs3⟩
    rw [hz]
    have hK : (W3.putObj (w.heap.size + 3 + 1) ob).heap[w.heap.size + 3]? = some (.deferred (some [])) := (World.putObj_heap_other (by omega)).trans hD3
    gi_wp2
    refine ⟨by simp, .inl ⟨_, _, rfl, run_takeDeferred hK, ?_⟩⟩
    refine ⟨_, results_tmp rfl _ _ _, rfl, ?_, ?_⟩
    · refine ⟨hE3.os, hE3.tape, hE3.output, by simpa using hE3.size, fun k hk hkb => ?_⟩
      rw [World.putObj_heap_other (by omega), World.putObj_heap_other (by omega)]
      exact hE3.block k hk hkb
    · obtain ⟨c3, h3, r3⟩ := hH3
      exact ⟨c3, by unfold Has; rw [World.putObj_heap_other (by omega), World.putObj_heap_other (by omega)]; exact h3, r3⟩
end Go.Proofs.YtcmkjgodgocdfaaDoor
/- (*Hash).Sum, Of, Sum: the digest of bytes. -/
namespace Go.Proofs.YtcmkjgodgocdfaaDoor
open Go.RowKit

theorem Below.ex {B b : Nat} {x y z : World} (h0 : Below B x y) (hB : B ≤ y.heap.size) (h : Ex b y z) (hb : B ≤ b) : Below B x z := Ex.to_below h0 hB h hb

theorem shaL_length (m : List UInt8) : (shaL m).length = 32 := digL_length _

set_option maxRecDepth 100000 in
set_option maxHeartbeats 1000000 in
theorem sum_any (hb : Nat) (m : List UInt8) (w : World) (hH : HashAt w hb m) (hg : Glob w) (hsm : m.length < 100000000000) :
    Calls Tryd.prog 52 #[.pointer (some ⟨hb, 0, none⟩)] w fun e w' => e = .returned (.agg (byteCells (shaL m))) ∧ Below w.heap.size w w' := by
  have hlt := hH.lt
  have hgs := hg.size
  go_enter Tryd.func52, Tryd.ntmps52
  go_wp2_with fail
  refine named (p := fun X => Calls _ _ _ X _) ?_
  intro W0 hW0
  have hB0 : Below w.heap.size w W0 := by rw [hW0]; exact (Below.refl _ _).alloc (Nat.le_refl _) _
  have hz0 : W0.heap.size = w.heap.size + 1 := by rw [hW0]; simp
  have hr0 : Has W0 w.heap.size (zeroCells 32) 30 := by rw [hW0]; exact has_new _ _ _ _ rfl
  have hH0 := hH.below hB0 hlt
  clear hW0
  obtain ⟨cs, hcs, hC⟩ := id hH0
  have c73 := (hcs.cell 73).trans hC.made
  have c72 := (hcs.cell 72).trans hC.len
  refine (none_any hb _ c73).mono ?_
  rintro e w' ⟨rfl, hw⟩
  obtain rfl := hw.symm
  go_wp2_with fail
  refine (copy_any hb m _ hH0).mono ?_
  rintro e W1 ⟨rfl, hB1, hH1⟩
  have hlt0 : hb < W0.heap.size := by omega
  have d72 := (hB1.cell (p := ⟨hb, 72, none⟩) hlt0).trans c72
  have hg1 := hg.below (hB0.trans (hB1.mono (by omega))) hgs
  have hs1 := hH1.lt
  clear c72 c73 hcs
  go_wp2_with fail
  refine (tail_any m.length (by omega) _).mono ?_
  rintro e W2 ⟨hB2, hlt2, rfl, hT2⟩
  have hg2 := hg1.below hB2 hg1.size
  have hH2 := hH1.below hB2 hs1
  have htl : (tailL m.length).length ≤ 100 := by rw [tailL_length]; omega
  go_wp2_with fail
  have hsl : SliceOf W2 (w.heap.size + 1) (.slice (some ⟨W1.heap.size, 0, none⟩) (tailL m.length).length (tailL m.length).length) (tailL m.length) :=
    ⟨_, _, W1.heap.size, 0, rfl, Nat.le_refl _, fun _ => rfl, fun j hj => by rw [hT2.cell, Nat.zero_add]; exact byteCells_at _ j hj, hlt2, by omega⟩
  rw [hz0] at hH1 hs1 hH2
  refine (write_any (w.heap.size + 1) m (tailL m.length) _ W2 hH2 hsl hg2 (by omega) (by omega)).mono ?_
  rintro e W3 ⟨rfl, hE3, hH3⟩
  obtain ⟨c3, hc3, hC3⟩ := hH3
  go_wp2_with fail
  refine (digest_any _ _ 101 c3 W3 hc3 hC3.st).mono ?_
  rintro e W4 ⟨rfl, hB4⟩
  rw [show digL (stN (m ++ tailL m.length) ((m ++ tailL m.length).length / 64)) = shaL m from rfl]
  have hE2 : Ex (w.heap.size + 1) W1 W3 := (Ex.below hB2).trans hE3
  have hr1 : Has W1 w.heap.size (zeroCells 32) 30 := hr0.below hB1 (by omega)
  have hr3 := hr1.ex hE2 (by omega)
  have hr4 := hr3.below hB4 hr3.lt
  have hb32 : (byteCells (shaL m)).size = 32 := by rw [byteCells_size, shaL_length]
  go_wp2_with (refine wpList_store_row rfl 30 _ _ rfl w.heap.size _ rfl rfl 30 _ hr4 (by rw [hb32]; kernel_rfl) (by rw [hb32, zeroCells_size]) (byteCells_one _) ?_)
  refine bodyPost_ret (results_cell_row rfl _ _ w.heap.size 30 _ (0, 0) _ rfl (setRow_heap _ _ _ _ _ _ hr4) Tryd.underlying30 rfl (by rw [hb32]; kernel_rfl)) rfl ?_
  have hBa : Below w.heap.size w W1 := hB0.trans (hB1.mono (by omega))
  have hBb : Below w.heap.size w W3 := Below.ex hBa hBa.size hE2 (by omega)
  exact ⟨rfl, (hBb.trans (hB4.mono hBb.size)).trans ⟨rfl, rfl, rfl, by simp, fun j hj => setRow_other _ _ _ _ (by omega)⟩⟩

set_option maxRecDepth 100000 in
set_option maxHeartbeats 400000 in
theorem sum_nil (w : World) :
    Calls Tryd.prog 52 #[.pointer none] w fun e w' => e = .returned (.agg (zeroCells 32)) ∧ Below w.heap.size w w' := by
  go_enter Tryd.func52, Tryd.ntmps52
  have hn := has_new w (zeroCells 32) 30 w.heap.size rfl
  go_wp2_with (first
    | (go_at_call 57; refine (none_nil _).mono ?_; rintro e w' ⟨rfl, hw⟩; obtain rfl := hw.symm)
    | refine wpList_store_row rfl 30 _ _ rfl w.heap.size (zeroCells 32) rfl rfl 30 _ hn (by kernel_rfl) rfl (by kernel_rfl) ?_)
  refine bodyPost_ret (results_cell_row rfl _ _ w.heap.size 30 _ (0, 0) _ rfl (setRow_heap _ _ _ _ _ _ hn) Tryd.underlying30 rfl (by kernel_rfl)) rfl ?_
  exact ⟨rfl, ((Below.refl _ _).alloc (Nat.le_refl _) _).trans ⟨rfl, rfl, rfl, by simp, fun j hj => setRow_other _ _ _ _ (by omega)⟩⟩

/-- A slice value whose bytes these are. -/
def Bytes (w : World) (v : Value) (d : List UInt8) : Prop :=
  ∃ a cap db o, v = .slice a d.length cap ∧ d.length ≤ cap ∧ (d ≠ [] → a = some ⟨db, o, none⟩) ∧ BytesIn w db o d ∧ db < w.heap.size
theorem Bytes.of {w : World} {v : Value} {d : List UInt8} (h : Bytes w v d) (b : Nat) (hb : w.heap.size ≤ b) : SliceOf w b v d := by
  obtain ⟨a, cap, db, o, h1, h2, h3, h4, h5⟩ := h
  exact ⟨a, cap, db, o, h1, h2, h3, h4, h5, by omega⟩
theorem SliceOf.ex {w w' : World} {b : Nat} {v : Value} {d : List UInt8} (h : SliceOf w b v d) (k : Ex b w w') : SliceOf w' b v d := by
  obtain ⟨a, cap, db, o, h1, h2, h3, h4, h5, h6⟩ := h
  exact ⟨a, cap, db, o, h1, h2, h3, fun j hj => (World.cell?_of_block (w := w) (k.block db h5 h6)).trans (h4 j hj), Nat.lt_of_lt_of_le h5 k.size, h6⟩
theorem SliceOf.below {w w' : World} {b : Nat} {v : Value} {d : List UInt8} (h : SliceOf w b v d) (k : Below w.heap.size w w') : SliceOf w' b v d := by
  obtain ⟨a, cap, db, o, h1, h2, h3, h4, h5, h6⟩ := h
  exact ⟨a, cap, db, o, h1, h2, h3, fun j hj => (k.cell (p := ⟨db, o + j, none⟩) h5).trans (h4 j hj), Nat.lt_of_lt_of_le h5 k.size, h6⟩
theorem Bytes.below {w w' : World} {v : Value} {d : List UInt8} (h : Bytes w v d) (k : Below w.heap.size w w') : Bytes w' v d := by
  obtain ⟨a, cap, db, o, h1, h2, h3, h4, h5⟩ := h
  exact ⟨a, cap, db, o, h1, h2, h3, fun j hj => (k.cell (p := ⟨db, o + j, none⟩) h5).trans (h4 j hj), Nat.lt_of_lt_of_le h5 k.size⟩
end Go.Proofs.YtcmkjgodgocdfaaDoor
/- sha.Of, sha.Sum. -/
namespace Go.Proofs.YtcmkjgodgocdfaaDoor
open Go.RowKit

/-- A slice value whose parts these are. -/
def Parts (w : World) (v : Value) (ds : List (List UInt8)) : Prop :=
  ∃ a cap pb po, v = .slice a ds.length cap ∧ (ds ≠ [] → a = some ⟨pb, po, none⟩) ∧ (∀ i, i < ds.length → ∃ sv, w.cell? ⟨pb, po + i, none⟩ = some sv ∧ Bytes w sv (ds[i]?.getD [])) ∧ pb < w.heap.size ∧ ds.flatten.length < 10000000000 ∧ ds.length < 10000000000

theorem flatten_take (ds : List (List UInt8)) (k : Nat) (h : k < ds.length) : (ds.take (k + 1)).flatten = (ds.take k).flatten ++ ds[k]?.getD [] := by
  rw [List.take_succ_eq_append_getElem h, List.flatten_append]
  simp [h]
theorem flatten_take_le (ds : List (List UInt8)) (k : Nat) : (ds.take k).flatten.length ≤ ds.flatten.length := by
  have e : ds.flatten = (ds.take k).flatten ++ (ds.drop k).flatten := by rw [← List.flatten_append, List.take_append_drop]
  rw [e]; simp

set_option maxRecDepth 100000 in
set_option maxHeartbeats 1000000 in
theorem of_any (v : Value) (ds : List (List UInt8)) (w : World) (hv : Parts w v ds) (hg : Glob w) :
    Calls Tryd.prog 45 #[v] w fun e w' => e = .returned (.agg (byteCells (shaL ds.flatten))) ∧ Below w.heap.size w w' := by
  obtain ⟨a, cap, pb, po, rfl, ha, hcell, hpb, hsm, hnum⟩ := hv
  have hgs := hg.size
  go_enter Tryd.func45, Tryd.ntmps45
  go_wp2_with fail
  refine named (p := fun X => Calls _ _ _ X _) ?_
  intro W0 hW0
  have hB0 : Below w.heap.size w W0 := by rw [hW0]; exact (Below.refl _ _).alloc (Nat.le_refl _) _
  have hz0 : W0.heap.size = w.heap.size + 1 := by rw [hW0]; simp
  have hr0 : Has W0 w.heap.size (zeroCells 32) 30 := by rw [hW0]; exact has_new _ _ _ _ rfl
  clear hW0
  refine (new_any W0 (hg.below hB0 hgs)).mono ?_
  rintro e W1 ⟨rfl, hB1, hH1⟩
  rw [hz0] at hH1 hB1 ⊢
  have hs1 := hH1.lt
  have hBa : Below w.heap.size w W1 := hB0.trans (hB1.mono (by omega))
  have hr1 : Has W1 w.heap.size (zeroCells 32) 30 := hr0.below hB1 (by omega)
  have hg1 := hg.below hBa hgs
  clear hz0
  go_wp2_with fail
  go_loopw [9] (fun i wr => ∃ k : Nat, k ≤ ds.length ∧ i = .int .i64 k ∧ Ex (w.heap.size + 1) W1 wr ∧ HashAt wr (w.heap.size + 1) (ds.take k).flatten) (fun i _ => ds.length - (intOf i).toNat)
  case atStart => exact ⟨0, by omega, rfl, Ex.refl _ _, by simpa using hH1⟩
  case round =>
    obtain ⟨k, hk, rfl, hE, hH⟩ := hrel
    have hBr : Below w.heap.size w wr := Below.ex hBa hBa.size hE (by omega)
    have hlen := flatten_take_le ds k
    have hsm' : ds.flatten.length < 10000000000 := hsm
    by_cases hlt : k < ds.length
    · obtain rfl := ha (by intro e; simp [e] at hlt)
      obtain ⟨sv, hsv, hby⟩ := hcell k hlt
      have hsv' := (hBr.cell (p := ⟨pb, po + k, none⟩) hpb).trans hsv
      have hlen2 := flatten_take_le ds (k + 1)
      rw [flatten_take ds k hlt, List.length_append] at hlen2
      have hso : SliceOf wr (w.heap.size + 1) sv (ds[k]?.getD []) := ((hby.of (w.heap.size + 1) (by omega)).below hBa).ex hE
      obtain ⟨a2, c2, db2, o2, rfl, _⟩ := id hso
      have hso' : Hid (SliceOf wr (w.heap.size + 1) (.slice a2 (ds[k]?.getD []).length c2) (ds[k]?.getD [])) := hso
      have HL2 : Hid ((ds.take k).flatten.length + (ds[k]?.getD []).length ≤ ds.flatten.length) := hlen2
      clear hso hsv hby hlen2 hlen hcell
      have HK : Hid (k < ds.length) := hlt
      generalize hdk : ds[k]?.getD [] = dk at *
      have Hdk : Hid (ds[k]?.getD [] = dk) := hdk
      clear hdk
      go_wp2_with fail
      refine (write_any (w.heap.size + 1) (ds.take k).flatten dk _ wr hH hso'.out (hg1.ex hE (by omega)) (by omega) (by have := HL2.out; omega)).mono ?_
      rintro e W3 ⟨rfl, hE3, hH3⟩
      go_wp2
      go_roundw
      case rel => exact ⟨k + 1, HK.out, by go_num, hE.trans hE3, by rw [flatten_take ds k HK.out, Hdk.out]; exact hH3⟩
      case measure => have := HK.out; simp [intOf]; omega
    · have ek : k = ds.length := by omega
      subst ek
      rw [List.take_of_length_le (Nat.le_refl _)] at hH
      clear hcell hlen
      go_wp2_with fail
      refine (sum_any (w.heap.size + 1) ds.flatten wr hH (hg1.ex hE (by omega)) (by omega)).mono ?_
      rintro e W4 ⟨rfl, hB4⟩
      have hr4 := (hr1.ex hE (by omega)).below hB4 (hr1.ex hE (by omega)).lt
      have hb32 : (byteCells (shaL ds.flatten)).size = 32 := by rw [byteCells_size, shaL_length]
      go_wp2_with (refine wpList_store_row rfl 30 _ _ rfl w.heap.size _ rfl rfl 30 _ hr4 (by rw [hb32]; kernel_rfl) (by rw [hb32, zeroCells_size]) (byteCells_one _) ?_)
      refine bodyPost_ret (results_cell_row rfl _ _ w.heap.size 30 _ (0, 0) _ rfl (setRow_heap _ _ _ _ _ _ hr4) Tryd.underlying30 rfl (by rw [hb32]; kernel_rfl)) rfl ?_
      exact ⟨rfl, (hBr.trans (hB4.mono hBr.size)).trans ⟨rfl, rfl, rfl, by simp, fun j hj => setRow_other _ _ _ _ (by omega)⟩⟩

end Go.Proofs.YtcmkjgodgocdfaaDoor
/- A region that draws its order and writes nothing that was there: each operation is shown once, from what is known of the operations that it waits for; what is known stays known as memory grows. So in every order all of it holds at the end. -/
namespace Go.Proofs.YtcmkjgodgocdfaaDoor
open Go.RowKit
variable {P : Program}

/-- Below N nothing has turned; no cell that was there has turned, and no row is of another make. -/
structure Le (N : Nat) (w w' : World) : Prop where
  below : Below N w w'
  cells : ∀ a : Addr, a.block < w.heap.size → w'.cell? a = w.cell? a
  shape : ∀ k, k < w.heap.size → w'.shape? k = w.shape? k
theorem Le.refl (N : Nat) (w : World) : Le N w w := ⟨Below.refl _ _, fun _ _ => rfl, fun _ _ => rfl⟩
theorem Le.trans {N : Nat} {x y z : World} (h : Le N x y) (k : Le N y z) : Le N x z :=
  ⟨h.below.trans k.below, fun a ha => (k.cells a (Nat.lt_of_lt_of_le ha h.below.size)).trans (h.cells a ha), fun a ha => (k.shape a (Nat.lt_of_lt_of_le ha h.below.size)).trans (h.shape a ha)⟩
theorem Le.drew (N : Nat) (w : World) : Le N w w.drew := ⟨(Below.refl _ _).drew, fun _ _ => rfl, fun _ _ => rfl⟩
theorem Le.drewN (N : Nat) (w : World) (k : Nat) : Le N w (w.drewN k) := ⟨⟨rfl, rfl, rfl, Nat.le_refl _, fun _ _ => rfl⟩, fun _ _ => rfl, fun _ _ => rfl⟩
theorem Le.of {N : Nat} {w w' : World} (h : Below w.heap.size w w') (hN : N ≤ w.heap.size) : Le N w w' :=
  ⟨h.mono hN, fun a ha => h.cell (p := a) ha, fun k hk => by unfold World.shape?; rw [h.block k hk]⟩
theorem Le.alloc {N : Nat} (w : World) (o : Obj) (hN : N ≤ w.heap.size) : Le N w (w.alloc o) := Le.of ((Below.refl _ _).alloc (Nat.le_refl _) _) hN
theorem Le.size {N : Nat} {w w' : World} (h : Le N w w') : w.heap.size ≤ w'.heap.size := h.below.size
theorem freeze_row {w : World} (a : Addr) (n k : Nat) {c : Array Value} {e : TypeId} {fr : Nat × Nat} (h : w.heap[k]? = some (.cells c e fr)) : ∃ fr', (w.freeze a n).heap[k]? = some (.cells c e fr') := by
  unfold World.freeze
  by_cases hn : n = 0
  · rw [if_pos hn]; exact ⟨_, h⟩
  rw [if_neg hn]
  simp only [Array.getElem?_modify, h]
  by_cases e : a.block = k
  · rw [if_pos e]; obtain ⟨lo, hi⟩ := fr; exact ⟨_, rfl⟩
  · rw [if_neg e]; exact ⟨_, rfl⟩
theorem freeze_other {w : World} (a : Addr) (n k : Nat) (h : ∀ c e fr, w.heap[k]? ≠ some (.cells c e fr)) : (w.freeze a n).heap[k]? = w.heap[k]? := by
  unfold World.freeze
  by_cases hn : n = 0
  · rw [if_pos hn]
  rw [if_neg hn]
  simp only [Array.getElem?_modify]
  by_cases e : a.block = k
  · rw [if_pos e]
    cases hk : w.heap[k]? with
    | none => rfl
    | some o => cases o <;> first | rfl | exact absurd hk (h _ _ _)
  · rw [if_neg e]
theorem Le.freeze {N : Nat} (w : World) (a : Addr) (n : Nat) (ha : N ≤ a.block) : Le N w (w.freeze a n) := by
  refine ⟨⟨by unfold World.freeze; split <;> rfl, by unfold World.freeze; split <;> rfl, by unfold World.freeze; split <;> rfl, by unfold World.freeze; split <;> simp, fun k hk => ?_⟩, fun p _ => ?_, fun k _ => ?_⟩
  · unfold World.freeze
    by_cases hn : n = 0
    · rw [if_pos hn]
    rw [if_neg hn]
    simp only [Array.getElem?_modify]
    rw [if_neg (by omega)]
  · unfold World.cell?
    by_cases h : ∃ c e fr, w.heap[p.block]? = some (.cells c e fr)
    · obtain ⟨c, e, fr, h⟩ := h
      obtain ⟨fr', h'⟩ := freeze_row a n p.block h
      rw [h, h']
    · rw [freeze_other a n p.block (fun c e fr hh => h ⟨c, e, fr, hh⟩)]
  · unfold World.shape?
    by_cases h : ∃ c e fr, w.heap[k]? = some (.cells c e fr)
    · obtain ⟨c, e, fr, h⟩ := h
      obtain ⟨fr', h'⟩ := freeze_row a n k h
      rw [h, h']
    · rw [freeze_other a n k (fun c e fr hh => h ⟨c, e, fr, hh⟩)]

/-- Each bit of a mask is an operation that is waited for, by an edge or by way of one. -/
def ancOk (l : List Oper) (A : List Nat) : Bool := (List.range l.length).all fun i => (List.range l.length).all fun j =>
  !(A.getD i 0).testBit j || (((l[i]?).map (·.after.any fun e => Region.binds .any e && (e.on == j || (decide (e.on < i) && (A.getD e.on 0).testBit j)))).getD false)
/-- Each slot that is listed is the one of an operation that is waited for, or is written by none but such as wait. -/
def needOk (l : List Oper) (A : List Nat) (need : List (List (Nat × Option Nat))) : Bool := (List.range l.length).all fun i => (need.getD i []).all fun p =>
  match p.2 with
  | some j => ((l[j]?).map (·.dst == some p.1)).getD false && (A.getD i 0).testBit j
  | none => (List.range l.length).all fun j => !((l[j]?).map (·.dst == some p.1)).getD false || (A.getD j 0).testBit i
/-- No two operations write one slot. -/
def dstsOk (l : List Oper) : Bool := (List.range l.length).all fun i => (List.range l.length).all fun j => i == j || (match (l[i]?).bind (·.dst), (l[j]?).bind (·.dst) with | some x, some y => x != y | _, _ => true)
def roomOk (l : List Oper) (M : Nat) : Bool := l.all fun o => match o.dst with | some d => decide (d < M) | none => true

structure Shut3 (l : List Oper) (listed : Array Bool) : Prop where
  size : listed.size = l.length
  shut : ∀ i, listed.getD i false = true → ∀ o, l[i]? = some o → ∀ e ∈ o.after, Region.binds .any e = true → listed.getD e.on false = true

theorem anc_listed {l : List Oper} {A : List Nat} (hA : ancOk l A = true) {listed : Array Bool} (hs : Shut3 l listed) : ∀ (k i : Nat), i ≤ k → ∀ o, l[i]? = some o → (∀ e ∈ o.after, Region.binds .any e = true → listed.getD e.on false = true) →
    ∀ j, j < l.length → (A.getD i 0).testBit j = true → listed.getD j false = true := by
  intro k
  induction k with
  | zero =>
    intro i hi o ho hdir j hj hb
    obtain rfl : i = 0 := by omega
    unfold ancOk at hA
    rw [List.all_eq_true] at hA
    have h1 := hA 0 (by simp; exact (List.getElem?_eq_some_iff.1 ho).1)
    rw [List.all_eq_true] at h1
    have h2 := h1 j (by simpa using hj)
    rw [hb, ho] at h2
    simp only [Bool.not_true, Bool.false_or, Option.map_some, Option.getD_some, Array.any_eq_true'] at h2
    obtain ⟨e, he, h3⟩ := h2
    simp only [Bool.and_eq_true, Bool.or_eq_true, beq_iff_eq, decide_eq_true_eq] at h3
    obtain ⟨hbd, h4⟩ := h3
    rcases h4 with rfl | ⟨h5, _⟩
    · exact hdir e he hbd
    · omega
  | succ k ih =>
    intro i hi o ho hdir j hj hb
    have hi0 : i < l.length := (List.getElem?_eq_some_iff.1 ho).1
    unfold ancOk at hA
    have hA' := hA
    rw [List.all_eq_true] at hA
    have h1 := hA i (by simpa using hi0)
    rw [List.all_eq_true] at h1
    have h2 := h1 j (by simpa using hj)
    rw [hb, ho] at h2
    simp only [Bool.not_true, Bool.false_or, Option.map_some, Option.getD_some, Array.any_eq_true'] at h2
    obtain ⟨e, he, h3⟩ := h2
    simp only [Bool.and_eq_true, Bool.or_eq_true, beq_iff_eq, decide_eq_true_eq] at h3
    obtain ⟨hbd, h4⟩ := h3
    rcases h4 with rfl | ⟨h5, h6⟩
    · exact hdir e he hbd
    · have hl := hdir e he hbd
      have he0 : e.on < l.length := by omega
      exact ih e.on (by omega) l[e.on] (List.getElem?_eq_getElem he0) (fun e' he' hb' => hs.shut e.on hl _ (List.getElem?_eq_getElem he0) e' he' hb') j hj h6

theorem wp_of_false {o : Oper} {a : Act} {w : World} {K K' : Act → World → Prop} {Q : Exit → Act → World → Prop} (h : o.wp P a w K (fun _ _ _ => False)) (hk : ∀ a w, K a w → K' a w) : o.wp P a w K' Q := by
  unfold Oper.wp at *
  generalize (execOp a.eval o).run P w = r at *
  cases r with
  | ok x w' =>
    cases x <;> simp only [Oper.upon] at h ⊢
    case value => exact hk _ _ h
    case skip => exact hk _ _ h
    case defer => exact hk _ _ h
    case enter =>
      refine h.mono fun e w'' he => ?_
      cases e with
      | returned v => exact hk _ _ he
      | panicked c => exact he.elim
      | outgrown => obtain ⟨_, _, hf⟩ := he; exact hf.elim
    case row => exact h.mono fun v w'' he => hk _ _ he
  | halt x w' =>
    cases x <;> simp only [Oper.upon] at h ⊢

section
variable {l : List Oper} {Φ : Nat → Value → World → Prop} {N : Nat} {a0 : Act} {W0 : World} {Q : Exit → Act → World → Prop}

structure At (l : List Oper) (Φ : Nat → Value → World → Prop) (N : Nat) (a0 : Act) (W0 : World) (listed : Array Bool) (a : Act) (w : World) : Prop where
  le : Le N W0 w
  shut : Shut3 l listed
  defers : a.defers = a0.defers
  size : a.tmps.size = a0.tmps.size
  slots : ∀ (i : Nat) (o : Oper), l[i]? = some o → listed.getD i false = true → ∀ d, o.dst = some d → Φ i (a.tmps.getD d undef) w
  olds : ∀ t, (∀ (i : Nat) (o : Oper), l[i]? = some o → o.dst = some t → listed.getD i false = false) → a.tmps.getD t undef = a0.tmps.getD t undef

theorem getD_put {a : Act} {d t : Nat} {v : Value} (h : d < a.tmps.size) : (a.put (some d) v).tmps.getD t undef = if t = d then v else a.tmps.getD t undef := by
  show (a.tmps.setIfInBounds d v).getD t undef = _
  rw [Array.getD_eq_getD_getElem?, Array.getElem?_setIfInBounds, Array.getD_eq_getD_getElem?]
  by_cases e : d = t
  · subst e; rw [if_pos rfl, if_pos h, if_pos rfl]; rfl
  · rw [if_neg e, if_neg (Ne.symm e)]

theorem setD {listed : Array Bool} {i q : Nat} (h : i < listed.size) : (listed.setIfInBounds i true).getD q false = if q = i then true else listed.getD q false := by
  rw [Array.getD_eq_getD_getElem?, Array.getElem?_setIfInBounds, Array.getD_eq_getD_getElem?]
  by_cases e : i = q
  · subst e; rw [if_pos rfl, if_pos h, if_pos rfl]; rfl
  · rw [if_neg e, if_neg (Ne.symm e)]

/-- One operation has been carried out, in whatever order. -/
theorem At.step (hd : dstsOk l = true) {M : Nat} (hr : roomOk l M = true) (hM : a0.tmps.size = M) (stable : ∀ i v w w', Le N w w' → Φ i v w → Φ i v w')
    {listed : Array Bool} {a : Act} {w w' : World} (h : At l Φ N a0 W0 listed a w) {i : Nat} {o : Oper} (ho : l[i]? = some o) (hdir : ∀ e ∈ o.after, Region.binds .any e = true → listed.getD e.on false = true)
    {v : Value} (hle : Le N w w') (hv : Φ i v w') : At l Φ N a0 W0 (listed.setIfInBounds i true) (a.put o.dst v) w' := by
  have hi : i < l.length := (List.getElem?_eq_some_iff.1 ho).1
  have hil : i < listed.size := by rw [h.shut.size]; exact hi
  have hroom : ∀ d, o.dst = some d → d < a.tmps.size := fun d hd' => by
    rw [h.size, hM]
    unfold roomOk at hr
    rw [List.all_eq_true] at hr
    have := hr o (List.mem_of_getElem? ho)
    rw [hd'] at this
    simpa using this
  have hdist : ∀ (j : Nat) (o' : Oper) (d : Nat), l[j]? = some o' → o.dst = some d → o'.dst = some d → j = i := fun j o' d ho' h1 h2 => by
    unfold dstsOk at hd
    rw [List.all_eq_true] at hd
    have h3 := hd j (by simp; exact (List.getElem?_eq_some_iff.1 ho').1)
    rw [List.all_eq_true] at h3
    have h4 := h3 i (by simpa using hi)
    rw [ho, ho'] at h4
    simp only [Option.bind_some, h1, h2, Bool.or_eq_true, beq_iff_eq] at h4
    rcases h4 with h4 | h4
    · exact h4
    · simp at h4
  refine ⟨h.le.trans hle, ⟨by simp [h.shut.size], fun j hj o' ho' e he hb => ?_⟩, ?_, ?_, fun j o' ho' hj d hd' => ?_, fun t ht => ?_⟩
  · rw [setD hil] at hj ⊢
    by_cases e1 : e.on = i
    · rw [if_pos e1]
    · rw [if_neg e1]
      by_cases e2 : j = i
      · subst e2; rw [ho] at ho'; cases ho'; exact hdir e he hb
      · rw [if_neg e2] at hj; exact h.shut.shut j hj o' ho' e he hb
  · cases hdd : o.dst <;> simp [Act.put, h.defers]
  · cases hdd : o.dst <;> simp [Act.put, h.size]
  · rw [setD hil] at hj
    by_cases e2 : j = i
    · subst e2; rw [ho] at ho'; cases ho'
      rw [hd', getD_put (hroom d hd'), if_pos rfl]; exact hv
    · rw [if_neg e2] at hj
      have hold := stable _ _ _ _ hle (h.slots j o' ho' hj d hd')
      cases hdd : o.dst with
      | none => exact hold
      | some x =>
        rw [getD_put (hroom x hdd), if_neg]
        · exact hold
        · rintro rfl; exact e2 (hdist j o' d ho' hdd hd')
  · have h1 : a.tmps.getD t undef = a0.tmps.getD t undef := h.olds t fun j o' ho' hdst => by
      have := ht j o' ho' hdst
      rw [setD hil] at this
      by_cases e2 : j = i
      · rw [if_pos e2] at this; cases this
      · rwa [if_neg e2] at this
    cases hdd : o.dst with
    | none => exact h1
    | some x =>
      rw [getD_put (hroom x hdd), if_neg]
      · exact h1
      · rintro rfl
        have := ht i o ho hdd
        rw [setD hil, if_pos rfl] at this; cases this
/-- What is known of the slots that operation number i reads. -/
def Env (Φ : Nat → Value → World → Prop) (a0 : Act) (ns : List (Nat × Option Nat)) (a : Act) (w : World) : Prop :=
  ∀ p ∈ ns, match p.2 with | some j => Φ j (a.tmps.getD p.1 undef) w | none => a.tmps.getD p.1 undef = a0.tmps.getD p.1 undef

theorem At.env {A : List Nat} {need : List (List (Nat × Option Nat))} (hA : ancOk l A = true) (hn : needOk l A need = true) {listed : Array Bool} {a : Act} {w : World} (h : At l Φ N a0 W0 listed a w)
    {i : Nat} {o : Oper} (ho : l[i]? = some o) (hun : listed.getD i false = false) (hdir : ∀ e ∈ o.after, Region.binds .any e = true → listed.getD e.on false = true) : Env Φ a0 (need.getD i []) a w := by
  have hi : i < l.length := (List.getElem?_eq_some_iff.1 ho).1
  intro p hp
  unfold needOk at hn
  rw [List.all_eq_true] at hn
  have h1 := hn i (by simpa using hi)
  rw [List.all_eq_true] at h1
  have h2 := h1 p hp
  obtain ⟨t, src⟩ := p
  cases src with
  | some j =>
    simp only [Bool.and_eq_true] at h2 ⊢
    obtain ⟨h3, h4⟩ := h2
    cases hj : l[j]? with
    | none => rw [hj] at h3; simp at h3
    | some o' =>
      rw [hj] at h3
      simp only [Option.map_some, Option.getD_some, beq_iff_eq] at h3
      exact h.slots j o' hj (anc_listed hA h.shut i i (Nat.le_refl _) o ho hdir j (List.getElem?_eq_some_iff.1 hj).1 h4) t h3
  | none =>
    refine h.olds t fun j o' ho' hdst => ?_
    simp only at h2
    rw [List.all_eq_true] at h2
    have h3 := h2 j (by simp; exact (List.getElem?_eq_some_iff.1 ho').1)
    rw [ho'] at h3
    simp only [Option.map_some, Option.getD_some, hdst, beq_self_eq_true, Bool.not_true, Bool.false_or] at h3
    cases hv : listed.getD j false with
    | false => rfl
    | true =>
      have := anc_listed hA h.shut j j (Nat.le_refl _) o' ho' (fun e he hb => h.shut.shut j hv o' ho' e he hb) i hi h3
      rw [hun] at this; cases this

/-- What one operation owes. -/
def Owes (P : Program) (l : List Oper) (Φ : Nat → Value → World → Prop) (N : Nat) (a0 : Act) (W0 : World) (ns : List (Nat × Option Nat)) (i : Nat) (o : Oper) : Prop :=
  ∀ a w, Le N W0 w → Env Φ a0 ns a w →
    if Region.wanted o (yielded l.toArray a.tmps) = true then o.wp P a w (fun a' w' => ∃ v, a' = a.put o.dst v ∧ Le N w w' ∧ Φ i v w') (fun _ _ _ => False) else Φ i undef w

/-- **The region.** -/
theorem wp_region_facts {id : Nat} (A : List Nat) (need : List (List (Nat × Option Nat))) (Φ : Nat → Value → World → Prop) (N M : Nat) (hm : P.follows .mixedOrders = true) (ht : topo l.toArray = true)
    (hA : ancOk l A = true) (hn : needOk l A need = true) (hd : dstsOk l = true) (hr : roomOk l M = true) (hM : a0.tmps.size = M) (stable : ∀ i v w w', Le N w w' → Φ i v w → Φ i v w')
    (hop : ∀ i o, l[i]? = some o → Owes P l Φ N a0 W0 (need.getD i []) i o)
    (hend : ∀ a w, Le N W0 w → a.defers = a0.defers → a.tmps.size = M → (∀ i o d, l[i]? = some o → o.dst = some d → Φ i (a.tmps.getD d undef) w) →
      (∀ t, (∀ o ∈ l, o.dst ≠ some t) → a.tmps.getD t undef = a0.tmps.getD t undef) → Q .normal a w) :
    (Code.region id l.toArray true).wp P Q a0 W0 := by
  refine wp_region_any hm ?_
  have main : ∀ (fuel : Nat) (listed : Array Bool) (a : Act) (w : World), At l Φ N a0 W0 listed a w → ((List.range l.length).filter fun i => !listed.getD i false).length ≤ fuel → wpAny P .any l.toArray Q fuel listed a w := by
    have last : ∀ (listed : Array Bool) (a : Act) (w : World), At l Φ N a0 W0 listed a w → Region.ready .any l.toArray listed = [] → Q .normal a w := fun listed a w h hrd => by
      have hall : ∀ i, i < l.length → listed.getD i false = true := by
        intro i
        induction i using Nat.strongRecOn with
        | ind i ih =>
          intro hi
          cases hv : listed.getD i false with
          | true => rfl
          | false =>
            have hin : i ∈ Region.ready .any l.toArray listed := by
              rw [mem_ready]
              refine ⟨by simpa using hi, ?_, l[i], by simp [hi], fun e he _ => ?_⟩
              · have hsz := h.shut.size
                rw [Array.getD_eq_getD_getElem?, Array.getElem?_eq_getElem (by omega)] at hv ⊢; exact hv
              · unfold topo at ht
                rw [List.all_eq_true] at ht
                have := ht i (by simpa using hi)
                rw [List.getElem?_toArray, List.getElem?_eq_getElem hi] at this
                simp only [Option.map_some, Option.getD_some, Array.all_eq_true', decide_eq_true_eq] at this
                exact ih e.on (this e he) (by have := this e he; omega)
            rw [hrd] at hin; cases hin
      refine hend a w h.le h.defers (h.size.trans hM) (fun i o d ho hdst => h.slots i o ho (hall i (List.getElem?_eq_some_iff.1 ho).1) d hdst) (fun t hto => h.olds t fun i o ho hdst => absurd hdst (hto o (List.mem_of_getElem? ho)))
    intro fuel
    induction fuel with
    | zero =>
      intro listed a w h hc
      have hrd : Region.ready .any l.toArray listed = [] := by
        rw [List.eq_nil_iff_forall_not_mem]
        intro i hi
        obtain ⟨h1, h2, _⟩ := mem_ready.1 hi
        have hin : i ∈ (List.range l.length).filter fun i => !listed.getD i false := by
          rw [List.mem_filter]
          refine ⟨by simpa using h1, ?_⟩
          have hsz := h.shut.size
          have h1' : i < listed.size := by simp at h1; omega
          rw [Array.getD_eq_getD_getElem?, Array.getElem?_eq_getElem h1'] at h2 ⊢
          simp at h2 ⊢; exact h2
        have : 0 < ((List.range l.length).filter fun i => !listed.getD i false).length := List.length_pos_of_mem hin
        omega
      exact ⟨hrd, last listed a w h hrd⟩
    | succ fuel ih =>
      intro listed a w h hc
      refine ⟨last listed a w h, fun i hi => ?_⟩
      obtain ⟨h1, h2, o, ho, hdir⟩ := mem_ready.1 hi
      rw [List.getElem?_toArray] at ho
      have hsz := h.shut.size
      have hil : i < listed.size := by simp at h1; omega
      have hun : listed.getD i false = false := by
        rw [Array.getD_eq_getD_getElem?, Array.getElem?_eq_getElem hil] at h2 ⊢; exact h2
      have hcount : ((List.range l.length).filter fun q => !(listed.setIfInBounds i true).getD q false).length ≤ fuel := by
        have e : ((List.range l.length).filter fun q => !(listed.setIfInBounds i true).getD q false) = ((List.range l.length).filter fun q => !listed.getD q false).filter (fun q => q != i) := by
          rw [List.filter_filter]
          apply List.filter_congr
          intro q _
          rw [setD hil]
          by_cases e : q = i
          · subst e; simp
          · simp [e]
        rw [e]
        have hmem : i ∈ (List.range l.length).filter fun q => !listed.getD q false := by
          rw [List.mem_filter]; exact ⟨by simpa using h1, by simp [hun]⟩
        have : (((List.range l.length).filter fun q => !listed.getD q false).filter (fun q => q != i)).length < ((List.range l.length).filter fun q => !listed.getD q false).length :=
          List.length_filter_lt_length_iff_exists.2 ⟨i, hmem, by simp⟩
        omega
      unfold wpOp
      rw [List.getElem?_toArray, ho]
      have hw := hop i o ho a w h.le (h.env hA hn ho hun hdir)
      by_cases hwant : Region.wanted o (yielded l.toArray a.tmps) = true
      · rw [if_pos hwant] at hw
        simp only [hwant, if_true]
        left
        refine wp_of_false hw ?_
        rintro a' w' ⟨v, rfl, hle, hv⟩
        exact ih _ _ _ (h.step hd hr hM stable ho hdir hle hv) hcount
      · rw [if_neg hwant] at hw
        simp only [hwant]
        exact ih _ _ _ (h.step hd hr hM stable ho hdir (Le.refl _ _) hw) hcount
  refine main _ _ _ _ ⟨Le.drew N W0, ⟨by simp, fun i hi => ?_⟩, rfl, rfl, fun i o ho hi => ?_, fun t _ => rfl⟩ (by simp; exact Nat.le_trans (List.length_filter_le _ _) (by simp))
  · exfalso
    rw [Array.getD_eq_getD_getElem?, Array.getElem?_replicate] at hi
    split at hi <;> simp at hi
  · exfalso
    rw [Array.getD_eq_getD_getElem?, Array.getElem?_replicate] at hi
    split at hi <;> simp at hi
/-- The obligations, one behind the other. -/
def OwesFrom (P : Program) (l : List Oper) (Φ : Nat → Value → World → Prop) (N : Nat) (a0 : Act) (W0 : World) : Nat → List (List (Nat × Option Nat)) → List Oper → Prop
  | _, _, [] => True
  | k, ns, o :: rest => Owes P l Φ N a0 W0 (ns.headD []) k o ∧ OwesFrom P l Φ N a0 W0 (k + 1) ns.tail rest
theorem OwesFrom.all : ∀ (rest : List Oper) (k : Nat) (ns : List (List (Nat × Option Nat))), OwesFrom P l Φ N a0 W0 k ns rest → ∀ (i : Nat) (o : Oper), rest[i]? = some o → Owes P l Φ N a0 W0 (ns.getD i []) (k + i) o
  | [], _, _, _, i, o, ho => by simp at ho
  | x :: rest, k, ns, h, i, o, ho => by
    cases i with
    | zero =>
      simp at ho; subst ho
      have := h.1
      cases ns <;> simpa using this
    | succ i =>
      have := OwesFrom.all rest (k + 1) ns.tail h.2 i o (by simpa using ho)
      rw [show k + (i + 1) = k + 1 + i by omega]
      cases ns <;> simpa using this

/-- The region, its obligations in a row. -/
theorem wp_region_owes {id : Nat} (A : List Nat) (need : List (List (Nat × Option Nat))) (Φ : Nat → Value → World → Prop) (N M : Nat) (hm : P.follows .mixedOrders = true) (ht : topo l.toArray = true)
    (hA : ancOk l A = true) (hn : needOk l A need = true) (hd : dstsOk l = true) (hr : roomOk l M = true) (hM : a0.tmps.size = M) (stable : ∀ i v w w', Le N w w' → Φ i v w → Φ i v w')
    (hop : OwesFrom P l Φ N a0 W0 0 need l)
    (hend : ∀ a w, Le N W0 w → a.defers = a0.defers → a.tmps.size = M → (∀ i o d, l[i]? = some o → o.dst = some d → Φ i (a.tmps.getD d undef) w) →
      (∀ t, (∀ o ∈ l, o.dst ≠ some t) → a.tmps.getD t undef = a0.tmps.getD t undef) → Q .normal a w) :
    (Code.region id l.toArray true).wp P Q a0 W0 :=
  wp_region_facts A need Φ N M hm ht hA hn hd hr hM stable (fun i o ho => by have := OwesFrom.all l 0 need hop i o ho; rwa [Nat.zero_add] at this) hend

theorem wanted_of {l : List Oper} {o : Oper} {a : Act} {j : Nat} {b : Bool} {d : Nat} (hg : o.guard = some (j, b)) (hj : (l[j]?).bind (·.dst) = some d) (h : a.tmps.getD d undef = .bool b) : Region.wanted o (yielded l.toArray a.tmps) = true := by
  unfold Region.wanted yielded
  rw [hg]
  simp only [List.getElem?_toArray, hj, Option.bind_some]
  rw [Array.getD_eq_getD_getElem?] at h
  cases hx : a.tmps[d]? with
  | none => rw [hx] at h; simp [undef] at h
  | some x => rw [hx] at h; simp at h; subst h; simp

theorem wanted_plain {o : Oper} {y : Nat → Option Bool} (hg : o.guard = none) : Region.wanted o y = true := by simp [Region.wanted, hg]
/-- An operation by its run: it yields a value. -/
theorem owe_value {o : Oper} {a : Act} {w w' : World} {v : Value} {i : Nat} (hrun : (execOp a.eval o).run P w = .ok (.value v) w') (hle : Le N w w') (hv : Φ i v w') :
    o.wp P a w (fun a' w' => ∃ v, a' = a.put o.dst v ∧ Le N w w' ∧ Φ i v w') (fun _ _ _ => False) := by
  unfold Oper.wp
  rw [hrun]
  exact ⟨v, rfl, hle, hv⟩
/-- .. it calls a function. -/
theorem owe_call {o : Oper} {a : Act} {w : World} {f : FuncId} {args : Array Value} {i : Nat} (hrun : (execOp a.eval o).run P w = .ok (.enter f args) w)
    (h : Calls P f args w fun e w' => ∃ v, e = .returned v ∧ Le N w w' ∧ Φ i v w') :
    o.wp P a w (fun a' w' => ∃ v, a' = a.put o.dst v ∧ Le N w w' ∧ Φ i v w') (fun _ _ _ => False) := by
  unfold Oper.wp
  rw [hrun]
  refine h.mono ?_
  rintro e w' ⟨v, rfl, hle, hv⟩
  exact ⟨v, rfl, hle, hv⟩
end
end Go.Proofs.YtcmkjgodgocdfaaDoor
/- General laws: a guarded load of a row, an operation by its run, two digests held against one another. -/
namespace Go.Proofs.YtcmkjgodgocdfaaDoor
open Go.RowKit
theorem part_byte (x : List UInt8) (i : Nat) (h : i < x.length) (w : World) : (part 5 (byteCells x) (i * 1)).run Tryd.prog w = .ok (.int .u8 (bv (x[i]?.getD 0))) w := by
  have hb := byteCells_at x i h
  rw [Nat.mul_one]
  simp [part, go_sem, hb]
theorem eq_arr (x y : List UInt8) (hx : x.length = 32) (hy : y.length = 32) (d : Nat) (w : World) :
    (Op.equalIn (d + 1 + 1) 30 (.agg (byteCells x)) (.agg (byteCells y))).run Tryd.prog w = .ok (x == y) w := by
  have hs : (sizeOf 5).run Tryd.prog w = .ok 1 w := by kernel_rfl
  rw [Op.equalIn]
  simp only [Sem.run_bind, run_underlying Tryd.underlying30, Result.andThen, hs]
  have key : ∀ (n k : Nat), k + n = 32 → (forIn (List.range' k n) ((none : Option Bool), ()) (fun i __s => do
            let __do_lift ← part 5 (byteCells x) (i * 1)
            let __do_lift_1 ← part 5 (byteCells y) (i * 1)
            let __do_lift ← Op.equalIn (d + 1) 5 __do_lift __do_lift_1
            if (!__do_lift) = true then pure (ForInStep.done (some false, ())) else pure (ForInStep.yield (none, ())))).run Tryd.prog w
        = .ok (if x.drop k = y.drop k then none else some false, ()) w := by
    intro n
    induction n with
    | zero =>
      intro k hk
      rw [if_pos (by rw [List.drop_of_length_le (by omega), List.drop_of_length_le (by omega)])]
      simp [Sem.run_pure]
    | succ n ih =>
      intro k hk
      rw [List.range'_succ, List.forIn_cons]
      have ex := part_byte x k (by omega) w
      have ey := part_byte y k (by omega) w
      simp only [Sem.run_bind, ex, ey, Result.andThen, run_equalIn_int w d 5 .u8 .u8 _ _ Tryd.underlying5]
      have hdx : x.drop k = x[k] :: x.drop (k + 1) := List.drop_eq_getElem_cons (by omega)
      have hdy : y.drop k = y[k] :: y.drop (k + 1) := List.drop_eq_getElem_cons (by omega)
      have gx : x[k]?.getD 0 = x[k] := by simp [show k < x.length by omega]
      have gy : y[k]?.getD 0 = y[k] := by simp [show k < y.length by omega]
      rw [gx, gy]
      have hdd : (x.drop k = y.drop k) = (x[k] = y[k] ∧ x.drop (k + 1) = y.drop (k + 1)) := by rw [hdx, hdy, List.cons.injEq]
      by_cases e : x[k] = y[k]
      · have eb : (bv x[k] == bv y[k]) = true := by rw [e]; simp
        simp only [eb, Bool.not_true, Bool.false_eq_true, if_false, Sem.run_pure]
        rw [ih (k + 1) (by omega)]
        simp only [hdd, e, true_and]
      · have eb : (bv x[k] == bv y[k]) = false := by
          rw [beq_eq_false_iff_ne]; intro h; apply e; unfold bv at h; exact UInt8.toNat_inj.1 (by omega)
        simp only [eb, Bool.not_false, if_true, Sem.run_pure]
        simp only [hdd, e, false_and, if_false]
  have := key 32 0 rfl
  rw [List.drop_zero, List.drop_zero] at this
  simp only [Std.Legacy.Range.forIn_eq_forIn_range', Std.Legacy.Range.size, Nat.sub_zero, Nat.add_sub_cancel, Nat.div_one]
  rw [this]
  by_cases e : x = y
  · simp [e, Sem.run_pure]
  · simp [e, Sem.run_pure]
theorem eq_dig (x y : List UInt8) (hx : x.length = 32) (hy : y.length = 32) (w : World) :
    (Op.equalIn 10000 30 (.agg (byteCells x)) (.agg (byteCells y))).run Tryd.prog w = .ok (x == y) w := eq_arr x y hx hy 9998 w
theorem wpList_load_row_if {P : Program} {ops : Array Oper} {rest : List Oper} {o : Oper} {a : Act} {w : World} {Q : Exit → Act → World → Prop} (hw : Region.wanted o (yielded ops a.tmps) = true) (ty : TypeId) (x : Operand) (ho : o.op = .load ty x)
    (g : Nat) (hx : a.eval x = .pointer (some ⟨g, 0, none⟩)) (t : TypeId) (cs : Array Value) (fr : Nat × Nat) (d : TypeDesc) (hg : w.heap[g]? = some (.cells cs t fr))
    (hu : P.underlying ty = some d) (hd : (match d with | .struct _ | .array _ _ => true | _ => false) = true) (hi : (P.info? ty).map (·.size) = some cs.size)
    (h : wpList P ops Q rest (a.put o.dst (.agg cs)) w) : wpList P ops Q (o :: rest) a w := by
  unfold wpList
  rw [if_pos hw]
  exact .inl (wp_load_row ty x ho g hx t cs fr d hg hu hd hi h)
theorem wpList_run {P : Program} {ops : Array Oper} {rest : List Oper} {o : Oper} {a : Act} {w w' : World} {v : Value} {Q : Exit → Act → World → Prop} (hw : Region.wanted o (yielded ops a.tmps) = true)
    (hrun : (execOp a.eval o).run P w = .ok (.value v) w') (h : wpList P ops Q rest (a.put o.dst v) w') : wpList P ops Q (o :: rest) a w := by
  unfold wpList
  rw [if_pos hw]
  refine .inl ?_
  unfold Oper.wp
  rw [hrun]
  exact h
theorem wpList_convert_run {P : Program} {ops : Array Oper} {rest : List Oper} {o : Oper} {a : Act} {w w' : World} {Q : Exit → Act → World → Prop} (hw : Region.wanted o (yielded ops a.tmps) = true)
    (src dst : TypeId) (x : Operand) (ho : o.op = .convert src dst x) (v0 v : Value) (hx : a.eval x = v0) (hrun : (convert src dst v0).run P w = .ok v w') (h : wpList P ops Q rest (a.put o.dst v) w') : wpList P ops Q (o :: rest) a w := by
  refine wpList_run hw ?_ h
  unfold execOp
  simp only [ho, hx, Sem.run_bind, hrun, Sem.run_pure, Result.andThen_ok]
def Row (W : World) (g : Nat) (l : List UInt8) : Prop := g < W.heap.size ∧ ∀ j, j < l.length → W.cell? ⟨g, j, none⟩ = some (.int .u8 (bv (l[j]?.getD 0)))
theorem Row.below {W W' : World} {g B : Nat} {l : List UInt8} (h : Row W g l) (k : Below B W W') (hb : g < B) : Row W' g l :=
  ⟨Nat.lt_of_lt_of_le h.1 k.size, fun j hj => by rw [World.cell?_of_block (w := W) (k.block g hb)]; exact h.2 j hj⟩
theorem Row.set {W : World} {g : Nat} {l : List UInt8} (h : Row W g l) (p : Nat) (x : UInt8) (hp : p < l.length) : Row (W.setCell ⟨g, p, none⟩ (.int .u8 (bv x))) g (l.set p x) := by
  refine ⟨by simpa using h.1, fun j hj => ?_⟩
  rw [List.length_set] at hj
  by_cases e : j = p
  · subst e
    rw [World.cell?_setCell_same _ _ _ (h.2 j hj)]
    simp [hj]
  · rw [cell_set_off e (h.2 j hj), List.getElem?_set_ne (by omega)]
end Go.Proofs.YtcmkjgodgocdfaaDoor
/- The document's turned, and math/bits.Mul64. -/
namespace Go.Proofs.YtcmkjgodgocdfaaDoor
open Go.RowKit

def rotN (x : Wd) : Nat → Wd
  | 0 => x
  | n + 1 => (rotN x n).rotateRight 1
theorem rotN_eq (x : Wd) : ∀ n, n < 32 → rotN x n = x.rotateRight n
  | 0, _ => by
    apply BitVec.eq_of_getLsbD_eq
    intro i hi
    rw [BitVec.getLsbD_rotateRight]
    simp [hi, rotN]
  | n + 1, h => by
    show (rotN x n).rotateRight 1 = _
    rw [rotN_eq x n (by omega)]
    apply BitVec.eq_of_getLsbD_eq
    intro i hi
    simp only [BitVec.getLsbD_rotateRight, Nat.mod_eq_of_lt h, Nat.mod_eq_of_lt (show n < 32 by omega), Nat.mod_eq_of_lt (show 1 < 32 by omega), Bool.cond_eq_ite, decide_eq_true_eq]
    by_cases h1 : i < 31
    · rw [if_pos (by omega)]
      by_cases h2 : i < 32 - (n + 1)
      · rw [if_pos (by omega), if_pos (by omega)]
        congr 1; omega
      · rw [if_neg (by omega), if_neg (by omega)]
        have : decide (1 + i < 32) = true := by simp; omega
        have h3 : decide (i < 32) = true := by simp; omega
        rw [this, h3]
        congr 2; omega
    · have hi31 : i = 31 := by omega
      subst hi31
      rw [if_neg (by omega), if_pos (by omega), if_neg (by omega)]
      congr 2; omega
theorem rot1 (x : Wd) : wv x / 2 + wv x % 2 * 2147483648 = wv (x.rotateRight 1) := by
  rw [← wd_rot x 1 (by decide)]
  have e : (x <<< (32 - 1) ||| x >>> 1) = x >>> 1 + x <<< 31 := by
    rw [BitVec.or_comm, ← BitVec.add_eq_or_of_and_eq_zero]
    apply BitVec.eq_of_getLsbD_eq
    intro i hi
    by_cases h : i < 31
    · simp [h]
    · obtain rfl : i = 31 := by omega
      simp
  rw [e]
  unfold wv
  rw [BitVec.toNat_add, BitVec.toNat_ushiftRight, BitVec.toNat_shiftLeft, Nat.shiftRight_eq_div_pow, Nat.shiftLeft_eq]
  have := x.isLt
  omega

set_option maxHeartbeats 400000 in
theorem refturned_any (x : Wd) (n : Nat) (hn : n < 32) (w : World) :
    Calls Tryd.prog 56 #[.int .u32 (wv x), .int .i64 n] w fun e w' => e = .returned (.int .u32 (wv (x.rotateRight n))) ∧ w' = w := by
  go_enter Tryd.func56, Tryd.ntmps56
  go_wp2_with fail
  go_loop [0, 5] (fun t i => ∃ k : Nat, k ≤ n ∧ i = .int .i64 k ∧ t = .int .u32 (wv (rotN x k))) (fun _ i => n - (intOf i).toNat)
  case atStart => exact ⟨0, by omega, rfl, rfl⟩
  case round =>
    obtain ⟨k, hk, rfl, rfl⟩ := hrel
    have Hs : Hid (rotN x (k + 1) = (rotN x k).rotateRight 1) := rfl
    by_cases hkn : k < n
    · have h1 := rot1 (rotN x k)
      have h2 := wv_nonneg (rotN x k)
      have h3 := wv_lt (rotN x k)
      generalize rotN x k = y at *
      have i1 : (k : Int) < n := by omega
      go_wp2_with fail
      go_round
      case rel => exact ⟨k + 1, by omega, by go_num, by rw [Hs.out]⟩
      case measure => simp [intOf]; omega
    · have e : k = n := by omega
      subst e
      have hr : Hid (rotN x k = x.rotateRight k) := rotN_eq x k hn
      go_wp2_with fail
      go_ret
      exact ⟨by rw [← hr.out]; rfl, rfl⟩

theorem and32 (m : Nat) : bits .and .u64 (nv m) 4294967295 = nv (m % 4294967296) := by
  have e2 : BitVec.ofInt 64 4294967295 = BitVec.ofNat 64 4294967295 := rfl
  have e1 : BitVec.ofInt 64 (nv m) = BitVec.ofNat 64 m := rfl
  show IntKind.u64.wrap _ = _
  simp only [IntKind.bits]
  have h : (BitVec.ofNat 64 m &&& BitVec.ofNat 64 4294967295).toNat = m % 4294967296 := by
    rw [BitVec.toNat_and, BitVec.toNat_ofNat, BitVec.toNat_ofNat]
    have := Nat.and_two_pow_sub_one_eq_mod (m % 2 ^ 64) 32
    simp only [show (2 : Nat) ^ 32 - 1 = 4294967295 from rfl] at this
    rw [show 4294967295 % 2 ^ 64 = 4294967295 from rfl, this]
    omega
  show IntKind.u64.wrap ((BitVec.ofNat 64 m &&& BitVec.ofNat 64 4294967295).toNat : Int) = _
  rw [h, IntKind.wrap_u64]; unfold nv; omega
theorem sh32 (m : Nat) : nv m / 4294967296 = nv (m / 4294967296) := by unfold nv; omega
theorem wr64 (m : Nat) (h : m < 18446744073709551616) : IntKind.u64.wrap (nv m) = nv m := by
  rw [IntKind.wrap_u64]; unfold nv; omega
theorem nv_mul (a b : Nat) : nv a * nv b = nv (a * b) := by unfold nv; simp
theorem nv_add (a b : Nat) : nv a + nv b = nv (a + b) := by unfold nv; simp
theorem mul_lt32 (a b : Nat) (ha : a < 4294967296) (hb : b < 4294967296) : a * b ≤ 18446744065119617025 := by
  have := Nat.mul_le_mul (Nat.le_of_lt_succ ha) (Nat.le_of_lt_succ hb)
  exact this
theorem mul_parts (x1 x0 y1 y0 : Nat) : (x1 * 4294967296 + x0) * (y1 * 4294967296 + y0) = x1 * y1 * 18446744073709551616 + (x1 * y0 + x0 * y1) * 4294967296 + x0 * y0 := by
  rw [Nat.add_mul, Nat.mul_add, Nat.mul_add]
  have h1 : x1 * 4294967296 * (y1 * 4294967296) = x1 * y1 * 18446744073709551616 := by
    rw [Nat.mul_mul_mul_comm]
  have h2 : x1 * 4294967296 * y0 = x1 * y0 * 4294967296 := by rw [Nat.mul_right_comm]
  have h3 : x0 * (y1 * 4294967296) = x0 * y1 * 4294967296 := by rw [Nat.mul_assoc]
  rw [h1, h2, h3]
  omega
theorem mul_hi (x y : Nat) (hx : x < 18446744073709551616) (hy : y < 18446744073709551616) :
    IntKind.u64.wrap (IntKind.u64.wrap (IntKind.u64.wrap (nv x / 4294967296 * (nv y / 4294967296)) + IntKind.u64.wrap (IntKind.u64.wrap (nv x / 4294967296 * bits BinOp.and IntKind.u64 (nv y) 4294967295) + IntKind.u64.wrap (bits BinOp.and IntKind.u64 (nv x) 4294967295 * bits BinOp.and IntKind.u64 (nv y) 4294967295) / 4294967296) / 4294967296) +
      IntKind.u64.wrap (bits BinOp.and IntKind.u64 (IntKind.u64.wrap (IntKind.u64.wrap (nv x / 4294967296 * bits BinOp.and IntKind.u64 (nv y) 4294967295) + IntKind.u64.wrap (bits BinOp.and IntKind.u64 (nv x) 4294967295 * bits BinOp.and IntKind.u64 (nv y) 4294967295) / 4294967296)) 4294967295 + IntKind.u64.wrap (bits BinOp.and IntKind.u64 (nv x) 4294967295 * (nv y / 4294967296))) / 4294967296) = nv (x * y / 18446744073709551616) := by
  have ex : x = x / 4294967296 * 4294967296 + x % 4294967296 := by omega
  have ey : y = y / 4294967296 * 4294967296 + y % 4294967296 := by omega
  have l1 : x / 4294967296 < 4294967296 := by omega
  have l2 : x % 4294967296 < 4294967296 := by omega
  have l3 : y / 4294967296 < 4294967296 := by omega
  have l4 : y % 4294967296 < 4294967296 := by omega
  have hm := mul_parts (x / 4294967296) (x % 4294967296) (y / 4294967296) (y % 4294967296)
  rw [← ex, ← ey] at hm
  simp only [and32, sh32]
  generalize x / 4294967296 = x1 at *
  generalize x % 4294967296 = x0 at *
  generalize y / 4294967296 = y1 at *
  generalize y % 4294967296 = y0 at *
  have m1 := mul_lt32 x1 y1 l1 l3
  have m2 := mul_lt32 x1 y0 l1 l4
  have m3 := mul_lt32 x0 y1 l2 l3
  have m4 := mul_lt32 x0 y0 l2 l4
  rw [nv_mul, nv_mul, nv_mul, nv_mul, hm]
  clear hm ex ey
  generalize x1 * y1 = a at *
  generalize x1 * y0 = b at *
  generalize x0 * y1 = c at *
  generalize x0 * y0 = d at *
  rw [wr64 a (by omega), wr64 b (by omega), wr64 c (by omega), wr64 d (by omega), sh32 d, nv_add b, wr64 (b + d / 4294967296) (by omega), sh32 (b + d / 4294967296), and32, nv_add _ c, wr64 _ (show (b + d / 4294967296) % 4294967296 + c < _ by omega), sh32, nv_add a, wr64 _ (show a + (b + d / 4294967296) / 4294967296 < _ by omega), nv_add, wr64 _ (by omega)]
  congr 1
  omega

set_option maxRecDepth 10000 in
set_option maxHeartbeats 400000 in
theorem mul64_any (x y : Nat) (hx : x < 18446744073709551616) (hy : y < 18446744073709551616) (w : World) :
    Calls Tryd.prog 71 #[.int .u64 (nv x), .int .u64 (nv y)] w fun e w' => e = .returned (.tuple #[.int .u64 (nv (x * y / 18446744073709551616)), .int .u64 (nv (x * y % 18446744073709551616))]) ∧ w' = w := by
  have H : Hid (x < 18446744073709551616 ∧ y < 18446744073709551616) := ⟨hx, hy⟩
  clear hx hy
  go_enter Tryd.func71, Tryd.ntmps71
  go_wp2_with fail
  go_ret2
  rw [mul_hi x y H.out.1 H.out.2, nv_mul]
  refine ⟨?_, rfl⟩
  congr 5
end Go.Proofs.YtcmkjgodgocdfaaDoor
/- The document's roots. -/
namespace Go.Proofs.YtcmkjgodgocdfaaDoor
open Go.RowKit

abbrev B64 : Nat := 18446744073709551616
def squareB (n p : Nat) : Bool := decide (n * n / 18446744073709551616 < p) || (decide (n * n / 18446744073709551616 = p) && decide (n * n % 18446744073709551616 = 0))
def cubeB (n p : Nat) : Bool :=
  let hi := n * n / 18446744073709551616
  let lo := n * n % 18446744073709551616
  let a := (lo * n / 18446744073709551616 + hi * n % 18446744073709551616) % 18446744073709551616
  let q := p * 4294967296 % 18446744073709551616
  decide (a < q) || (decide (a = q) && decide (lo * n % 18446744073709551616 = 0))
theorem wpList_lss_run {P : Program} {ops : Array Oper} {rest : List Oper} {o : Oper} {a : Act} {w : World} {Q : Exit → Act → World → Prop} (hw : Region.wanted o (yielded ops a.tmps) = true)
    (ty ty2 : TypeId) (x y : Operand) (ho : o.op = .binOp .lss ty x y ty2) (k : IntKind) (m n : Int) (hx : a.eval x = .int k m) (hy : a.eval y = .int k n) (r : Bool) (hr : decide (m < n) = r) (h : wpList P ops Q rest (a.put o.dst (.bool r)) w) : wpList P ops Q (o :: rest) a w := by
  refine wpList_run hw ?_ h
  unfold execOp
  subst hr
  simp only [ho, hx, hy]
  simp [go_sem]
theorem nv_inj {a b : Nat} : nv a = nv b ↔ a = b := by unfold nv; omega

set_option maxRecDepth 10000 in
set_option maxHeartbeats 400000 in
theorem square_any (n p : Nat) (hn : Hid (n < 18446744073709551616)) (w : World) :
    Calls Tryd.prog 65 #[.int .u64 (nv n), .int .u64 (nv p)] w fun e w' => e = .returned (.bool (squareB n p)) ∧ w' = w := by
  have hs : Hid (squareB n p = (decide (n * n / 18446744073709551616 < p) || (decide (n * n / 18446744073709551616 = p) && decide (n * n % 18446744073709551616 = 0)))) := rfl
  generalize squareB n p = r at *
  have hm := mul64_any n n hn.out hn.out w
  generalize n * n / 18446744073709551616 = hi at *
  generalize n * n % 18446744073709551616 = lo at *
  by_cases h1 : hi < p
  · have i1 : nv hi < nv p := by unfold nv; omega
    obtain rfl : r = true := by rw [hs.out]; simp [h1]
    go_enter Tryd.func65, Tryd.ntmps65
    go_wp2_with (go_at_call 71; refine hm.mono ?_; rintro e w' ⟨rfl, hw⟩; obtain rfl := hw.symm)
    go_ret
    exact ⟨rfl, rfl⟩
  · have i1 : ¬ nv hi < nv p := by unfold nv; omega
    by_cases h2 : hi = p
    · have i2 : nv hi = nv p := by rw [h2]
      by_cases h3 : lo = 0
      · have i3 : nv lo = 0 := by rw [h3]; rfl
        obtain rfl : r = true := by rw [hs.out]; simp [h2, h3]
        clear h2 h3
        go_enter Tryd.func65, Tryd.ntmps65
        go_wp2_with (go_at_call 71; refine hm.mono ?_; rintro e w' ⟨rfl, hw⟩; obtain rfl := hw.symm)
        go_ret
        exact ⟨rfl, rfl⟩
      · have i3 : (nv lo == 0) = false := by rw [beq_eq_false_iff_ne]; unfold nv; omega
        obtain rfl : r = false := by rw [hs.out]; simp [h2, h3]
        clear h2 h3
        go_enter Tryd.func65, Tryd.ntmps65
        go_wp2_with (go_at_call 71; refine hm.mono ?_; rintro e w' ⟨rfl, hw⟩; obtain rfl := hw.symm)
        go_ret
        exact ⟨rfl, rfl⟩
    · have H1 : Hid (decide (nv hi < nv p) = false) := decide_eq_false i1
      have i2 : (nv hi == nv p) = false := by rw [beq_eq_false_iff_ne]; intro h; exact h2 (nv_inj.1 h)
      obtain rfl : r = false := by rw [hs.out]; simp [h1, h2]
      clear h2
      go_enter Tryd.func65, Tryd.ntmps65
      go_wp2_with (go_at_call 71; refine hm.mono ?_; rintro e w' ⟨rfl, hw⟩; obtain rfl := hw.symm)
      go_ret
      exact ⟨by show Ending.returned (.bool (decide (nv hi < nv p))) = _; rw [H1.out], rfl⟩

set_option maxRecDepth 10000 in
set_option maxHeartbeats 400000 in
theorem cube_any (n p : Nat) (hn : Hid (n < 18446744073709551616)) (w : World) :
    Calls Tryd.prog 64 #[.int .u64 (nv n), .int .u64 (nv p)] w fun e w' => e = .returned (.bool (cubeB n p)) ∧ w' = w := by
  have hs : Hid (cubeB n p = (decide ((n * n % 18446744073709551616 * n / 18446744073709551616 + n * n / 18446744073709551616 * n % 18446744073709551616) % 18446744073709551616 < p * 4294967296 % 18446744073709551616) ||
     (decide ((n * n % 18446744073709551616 * n / 18446744073709551616 + n * n / 18446744073709551616 * n % 18446744073709551616) % 18446744073709551616 = p * 4294967296 % 18446744073709551616) && decide (n * n % 18446744073709551616 * n % 18446744073709551616 = 0)))) := rfl
  generalize cubeB n p = r at *
  have hm := mul64_any n n hn.out hn.out w
  have hm2 := mul64_any (n * n % 18446744073709551616) n (Nat.mod_lt _ (by decide)) hn.out w
  have f1 : IntKind.u64.wrap (nv (n * n / 18446744073709551616) * nv n) = nv (n * n / 18446744073709551616 * n % 18446744073709551616) := by
    rw [nv_mul, IntKind.wrap_u64]; unfold nv; omega
  generalize n * n / 18446744073709551616 * n % 18446744073709551616 = hn2 at *
  generalize n * n / 18446744073709551616 = hi at *
  generalize n * n % 18446744073709551616 = lo at *
  have f2 : IntKind.u64.wrap (nv (lo * n / 18446744073709551616) + nv hn2) = nv ((lo * n / 18446744073709551616 + hn2) % 18446744073709551616) := by
    rw [nv_add, IntKind.wrap_u64]; unfold nv; omega
  generalize (lo * n / 18446744073709551616 + hn2) % 18446744073709551616 = A at *
  generalize lo * n / 18446744073709551616 = A0 at *
  generalize lo * n % 18446744073709551616 = B at *
  have f3 : IntKind.u64.wrap (nv p * 4294967296) = nv (p * 4294967296 % 18446744073709551616) := by
    rw [IntKind.wrap_u64]; unfold nv; omega
  generalize p * 4294967296 % 18446744073709551616 = P at *
  by_cases h1 : A < P
  · have i1 : nv A < nv P := by unfold nv; omega
    obtain rfl : r = true := by rw [hs.out]; simp [h1]
    go_enter Tryd.func64, Tryd.ntmps64
    go_wp2_with fail
    refine hm.mono ?_
    rintro e w' ⟨rfl, hw⟩
    obtain rfl := hw.symm
    go_wp2_with fail
    refine hm2.mono ?_
    rintro e w' ⟨rfl, hw⟩
    obtain rfl := hw.symm
    go_wp2_with fail
    go_ret
    exact ⟨rfl, rfl⟩
  · have i1 : ¬ nv A < nv P := by unfold nv; omega
    by_cases h2 : A = P
    · have i2 : nv A = nv P := by rw [h2]
      by_cases h3 : B = 0
      · have i3 : nv B = 0 := by rw [h3]; rfl
        obtain rfl : r = true := by rw [hs.out]; simp [h2, h3]
        clear h2 h3
        go_enter Tryd.func64, Tryd.ntmps64
        go_wp2_with fail
        refine hm.mono ?_
        rintro e w' ⟨rfl, hw⟩
        obtain rfl := hw.symm
        go_wp2_with fail
        refine hm2.mono ?_
        rintro e w' ⟨rfl, hw⟩
        obtain rfl := hw.symm
        go_wp2_with fail
        go_ret
        exact ⟨rfl, rfl⟩
      · have i3 : (nv B == 0) = false := by rw [beq_eq_false_iff_ne]; unfold nv; omega
        obtain rfl : r = false := by rw [hs.out]; simp [h2, h3]
        clear h2 h3
        go_enter Tryd.func64, Tryd.ntmps64
        go_wp2_with fail
        refine hm.mono ?_
        rintro e w' ⟨rfl, hw⟩
        obtain rfl := hw.symm
        go_wp2_with fail
        refine hm2.mono ?_
        rintro e w' ⟨rfl, hw⟩
        obtain rfl := hw.symm
        go_wp2_with fail
        go_ret
        exact ⟨rfl, rfl⟩
    · have H1 : decide (nv A < nv P) = false := decide_eq_false i1
      have i2 : (nv A == nv P) = false := by rw [beq_eq_false_iff_ne]; intro h; exact h2 (nv_inj.1 h)
      obtain rfl : r = false := by rw [hs.out]; simp [h1, h2]
      clear h2
      go_enter Tryd.func64, Tryd.ntmps64
      go_wp2_with fail
      refine hm.mono ?_
      rintro e w' ⟨rfl, hw⟩
      obtain rfl := hw.symm
      go_wp2_with fail
      refine hm2.mono ?_
      rintro e w' ⟨rfl, hw⟩
      obtain rfl := hw.symm
      go_wp2_with fail
      go_ret
      refine ⟨?_, rfl⟩
      first
        | rfl
        | (simp; omega)

/-- The root's bits that stand, from bit 36 down: those above bit i. -/
def rootS (p : Nat) (cube : Bool) (n i : Nat) : Nat :=
  if (cube && decide (n + 2 ^ i < 68719476736) && cubeB (n + 2 ^ i) p) || (!cube && squareB (n + 2 ^ i) p) then n + 2 ^ i else n
def rootN (p : Nat) (cube : Bool) : Nat → Nat
  | 0 => 0
  | k + 1 => rootS p cube (rootN p cube k) (36 - k)
theorem rootN_lt (p : Nat) (cube : Bool) : ∀ k, k ≤ 37 → rootN p cube k < 2 ^ 37 ∧ ∃ m, rootN p cube k = m * 2 ^ (37 - k)
  | 0, _ => ⟨Nat.pos_of_ne_zero (by simp), 0, by simp [rootN]⟩
  | k + 1, h => by
    obtain ⟨h1, m, hm⟩ := rootN_lt p cube k (by omega)
    have e : 2 ^ (37 - k) = 2 * 2 ^ (36 - k) := by rw [show 37 - k = (36 - k) + 1 by omega, Nat.pow_succ, Nat.mul_comm]
    have e2 : 37 - (k + 1) = 36 - k := by omega
    have e3 : (2 : Nat) ^ 37 = 2 ^ k * (2 * 2 ^ (36 - k)) := by rw [← e, ← Nat.pow_add]; congr 1; omega
    show rootS p cube (rootN p cube k) (36 - k) < _ ∧ ∃ m, rootS p cube (rootN p cube k) (36 - k) = m * _
    rw [e2]
    unfold rootS
    split
    · refine ⟨?_, 2 * m + 1, ?_⟩
      · rw [hm, e] at h1 ⊢
        rw [e3] at h1 ⊢
        have hpos : 0 < 2 ^ (36 - k) := Nat.pos_of_ne_zero (by simp)
        have h2 : m * (2 * 2 ^ (36 - k)) < 2 ^ k * (2 * 2 ^ (36 - k)) := h1
        have h3 : m < 2 ^ k := Nat.lt_of_mul_lt_mul_right h2
        have h4 : (m + 1) * (2 * 2 ^ (36 - k)) ≤ 2 ^ k * (2 * 2 ^ (36 - k)) := Nat.mul_le_mul_right _ h3
        rw [Nat.add_mul] at h4
        omega
      · rw [hm, e, Nat.add_mul, Nat.mul_assoc, Nat.mul_left_comm]; omega
    · exact ⟨h1, 2 * m, by rw [hm, e, Nat.mul_assoc, Nat.mul_left_comm]⟩
def rootW (p : Nat) (cube : Bool) : Wd := BitVec.ofNat 32 (rootN p cube 37)

set_option maxRecDepth 100000 in
set_option maxHeartbeats 400000 in
theorem root_any (p : Nat) (cube : Bool) (w : World) :
    Calls Tryd.prog 55 #[.int .u64 (nv p), .bool cube] w fun e w' => e = .returned (.int .u32 (wv (rootW p cube))) ∧ w' = w := by
  go_enter Tryd.func55, Tryd.ntmps55
  go_wp2_with fail
  go_loop [5, 6] (fun t i => ∃ k : Nat, k ≤ 37 ∧ i = .int .i64 (36 - k) ∧ t = .int .u64 (nv (rootN p cube k))) (fun _ i => ((intOf i) + 1).toNat)
  case atStart => exact ⟨0, by omega, rfl, rfl⟩
  case round =>
    obtain ⟨k, hk, rfl, rfl⟩ := hrel
    by_cases hk37 : k < 37
    · have hb := (rootN_lt p cube k (by omega)).1
      obtain ⟨j, hj⟩ : ∃ j, j = 36 - k := ⟨_, rfl⟩
      have ej : 36 - (k : Int) = (j : Int) := by omega
      have Hs : Hid (rootN p cube (k + 1) = rootS p cube (rootN p cube k) j) := by subst hj; rfl
      rw [ej]
      have i0 : (0 : Int) ≤ (j : Int) := by omega
      have i36 : (j : Int) ≤ 36 := by omega
      generalize rootN p cube k = n at *
      have hpow : 2 ^ j ≤ 2 ^ 36 := Nat.pow_le_pow_right (by decide) (by omega)
      have hsh : IntKind.u64.wrap ((2 : Int) ^ j) = nv (2 ^ j) := by
        rw [IntKind.wrap_u64]
        have e : ((2 : Int) ^ j) = ((2 ^ j : Nat) : Int) := by simp
        unfold nv
        rw [e]
        have : (2 : Nat) ^ 36 = 68719476736 := rfl
        have h0 : (0 : Int) ≤ 2 ^ j := Int.pow_nonneg (by decide)
        omega
      have hadd : IntKind.u64.wrap (nv n + nv (2 ^ j)) = nv (n + 2 ^ j) := by
        rw [nv_add, wr64 _ (by have : (2 : Nat) ^ 37 = 137438953472 := rfl; have : (2 : Nat) ^ 36 = 68719476736 := rfl; omega)]
      have hM : Hid (n + 2 ^ j < 18446744073709551616) := by show _ < _; have : (2 : Nat) ^ 37 = 137438953472 := rfl; have : (2 : Nat) ^ 36 = 68719476736 := rfl; omega
      have Hr : Hid (rootS p cube n j = if (cube && decide (n + 2 ^ j < 68719476736) && cubeB (n + 2 ^ j) p) || (!cube && squareB (n + 2 ^ j) p) then n + 2 ^ j else n) := rfl
      generalize n + 2 ^ j = M at *
      generalize 2 ^ j = J at *
      clear hb hpow
      have Hj : Hid (j = 36 - k) := hj
      clear hj ej
      have hc := cube_any M p hM w
      have hq := square_any M p hM w
      cases cube with
      | false =>
        generalize hcb : squareB M p = b at *
        have HB : Hid (squareB M p = b) := hcb
        clear hc hcb
        cases b with
        | false =>
          go_wp2_with (go_at_call 65; refine hq.mono ?_; rintro e w' ⟨rfl, hw⟩; obtain rfl := hw.symm)
          go_round
          case rel => exact ⟨k + 1, by omega, congrArg (Value.int .i64) (by have := Hj.out; omega), by rw [Hs.out, Hr.out]; simp⟩
          case measure => simp [intOf] <;> omega
        | true =>
          go_wp2_with (go_at_call 65; refine hq.mono ?_; rintro e w' ⟨rfl, hw⟩; obtain rfl := hw.symm)
          go_round
          case rel => exact ⟨k + 1, by omega, congrArg (Value.int .i64) (by have := Hj.out; omega), by rw [Hs.out, Hr.out]; simp⟩
          case measure => simp [intOf] <;> omega
      | true =>
        have e36 : ∀ r, decide (M < 68719476736) = r → decide (nv M < 68719476736) = r := fun r h => by rw [← h]; congr 1; unfold nv; apply propext; omega
        generalize hlt : decide (M < 68719476736) = r at *
        have H1 : Hid (decide (nv M < 68719476736) = r) := e36 r rfl
        have HL : Hid (decide (M < 68719476736) = r) := hlt
        clear hlt e36 hq
        cases r with
        | false =>
          clear hc
          have HN : Hid (68719476736 ≤ M) := Nat.le_of_not_lt (of_decide_eq_false HL.out)
          go_wp2_with (refine wpList_lss_run (by rfl) 82 82 _ _ rfl .u64 _ _ rfl rfl false ?a1 ?_)
          case a1 => have := HN.out; unfold nv; omega
          go_round
          case rel => exact ⟨k + 1, by omega, congrArg (Value.int .i64) (by have := Hj.out; omega), by rw [Hs.out, Hr.out]; simp⟩
          case measure => simp [intOf] <;> omega
        | true =>
          generalize hcb : cubeB M p = b at *
          have HB : Hid (cubeB M p = b) := hcb
          clear hcb
          cases b with
          | false =>
            have HN : Hid (M < 68719476736) := (of_decide_eq_true HL.out : M < 68719476736)
            go_wp2_with (first
              | (go_at_call 64; refine hc.mono ?_; rintro e w' ⟨rfl, hw⟩; obtain rfl := hw.symm)
              | refine wpList_lss_run (by rfl) 82 82 _ _ rfl .u64 _ _ rfl rfl true ?a1 ?_)
            case a1 => have := HN.out; unfold nv; omega
            go_round
            case rel => exact ⟨k + 1, by omega, congrArg (Value.int .i64) (by have := Hj.out; omega), by rw [Hs.out, Hr.out]; simp⟩
            case measure => simp [intOf] <;> omega
          | true =>
            have HN : Hid (M < 68719476736) := (of_decide_eq_true HL.out : M < 68719476736)
            go_wp2_with (first
              | (go_at_call 64; refine hc.mono ?_; rintro e w' ⟨rfl, hw⟩; obtain rfl := hw.symm)
              | refine wpList_lss_run (by rfl) 82 82 _ _ rfl .u64 _ _ rfl rfl true ?a1 ?_)
            case a1 => have := HN.out; unfold nv; omega
            go_round
            case rel => exact ⟨k + 1, by omega, congrArg (Value.int .i64) (by have := Hj.out; omega), by rw [Hs.out, Hr.out]; simp⟩
            case measure => simp [intOf] <;> omega
    · have e37 : k = 37 := by omega
      subst e37
      have hb := (rootN_lt p cube 37 (by omega)).1
      have hw : Hid ((nv (rootN p cube 37)).tmod 4294967296 % 4294967296 = wv (rootW p cube)) := by
        show _ = _
        rw [Int.tmod_eq_emod_of_nonneg (nv_nonneg _)]
        unfold rootW wv nv
        rw [BitVec.toNat_ofNat]; omega
      generalize rootN p cube 37 = n at *
      clear hb
      go_wp2_with fail
      go_ret
      exact ⟨by rw [← hw.out]; rfl, rfl⟩

/-- The primes below n, in order. -/
def primesBelow : Nat → List Nat
  | 0 => []
  | n + 1 => if 2 ≤ n ∧ (primesBelow n).all (fun q => n % q != 0) then primesBelow n ++ [n] else primesBelow n
set_option maxRecDepth 100000 in
theorem cube_words : (primesBelow 312).map (fun p => rootW p true) = (List.range 64).map cubeW := by decide +kernel
theorem square_words : (primesBelow 20).map (fun p => rootW p false) = (List.range 8).map squareW := by decide +kernel
end Go.Proofs.YtcmkjgodgocdfaaDoor
/- The document's primes. -/
namespace Go.Proofs.YtcmkjgodgocdfaaDoor
open Go.RowKit

def uv (p : Nat) : Value := .int .u64 (nv p)
/-- How far the primes are sought: 64 of them, 8 of them. -/
structure Lim (n lim : Nat) : Prop where
  lt : ∀ p, p < lim → (primesBelow p).length < n
  eq : (primesBelow lim).length = n
  big : 2 ≤ lim ∧ lim ≤ 400
theorem lim64 : Lim 64 312 := ⟨fun p hp => by
  have key : ∀ p : Fin 312, (primesBelow p.val).length < 64 := by decide +kernel
  exact key ⟨p, hp⟩, by decide +kernel, by decide⟩
theorem lim8 : Lim 8 20 := ⟨fun p hp => by
  have key : ∀ p : Fin 20, (primesBelow p.val).length < 8 := by decide +kernel
  exact key ⟨p, hp⟩, by decide +kernel, by decide⟩
theorem primes_pos : ∀ n q, q ∈ primesBelow n → 2 ≤ q ∧ q < n
  | 0, q, h => by simp [primesBelow] at h
  | n + 1, q, h => by
    unfold primesBelow at h
    split at h
    · rw [List.mem_append] at h
      rcases h with h | h
      · have := primes_pos n q h; omega
      · simp at h; subst h; rename_i hh; omega
    · have := primes_pos n q h; omega
theorem primes_next (n : Nat) (h : 2 ≤ n) : primesBelow (n + 1) = if (primesBelow n).all (fun q => n % q != 0) then primesBelow n ++ [n] else primesBelow n := by
  show (if 2 ≤ n ∧ _ then _ else _) = _
  simp only [h, true_and]

theorem below_grown {B : Nat} {w wr w2 : World} {o : Obj} {row : Option Nat} (h : Below B w wr) (hg : (wr.alloc o).grownBy w2 row) (hrow : ∀ k, row = some k → B ≤ k) (hs : B ≤ w.heap.size := by exact Nat.le_refl _) : Below B w w2 := by
  have hsz : (wr.alloc o).heap.size = wr.heap.size + 1 := by simp
  have h1 := h.size
  refine ⟨hg.os.trans h.os, hg.tape.trans h.tape, hg.output.trans h.output, by have := hg.size; omega, fun k hk => ?_⟩
  rw [hg.block k (by omega) (fun e => by have := hrow k e.symm; omega), alloc_get, if_neg (by omega)]
  exact h.block k hk
theorem info60 : (Tryd.prog.info? 82).map (fun i => (i.zero, i.size, i.bytes)) = some (some (.int .u64 0), 1, 8) := by kernel_rfl
set_option maxRecDepth 10000 in
set_option maxHeartbeats 1000000 in
theorem primes_any (n lim : Nat) (hl : Lim n lim) (hn : n ≤ 64) (w : World) :
    Calls Tryd.prog 54 #[.int .i64 n] w fun e w' => ∃ v, e = .returned v ∧ w'.ownsRow w.heap.size 82 1 v n ((primesBelow lim).map uv) ∧ Below w.heap.size w w' := by
  go_enter Tryd.func54, Tryd.ntmps54
  go_wp2_with fail
  go_loopw [3, 4] (fun v t wr => ∃ p : Nat, 2 ≤ p ∧ p ≤ lim ∧ t = .int .u64 (nv p) ∧ wr.ownsRow w.heap.size 82 1 v (primesBelow p).length ((primesBelow p).map uv) ∧ Below w.heap.size w wr) (fun _ t _ => lim - (intOf t).toNat)
  case atStart => exact ⟨2, by omega, hl.big.1, rfl, World.ownsRow_nil _ _ _ _, Below.refl _ _⟩
  case round =>
    obtain ⟨p, hp2, hpl, rfl, hown, hB⟩ := hrel
    by_cases hpp : p < lim
    · have hlen := hl.lt p hpp
      have hpos := primes_pos p
      have Hnx : Hid (primesBelow (p + 1) = if (primesBelow p).all (fun q => p % q != 0) then primesBelow p ++ [p] else primesBelow p) := primes_next p hp2
      have hb := hl.big.2
      generalize primesBelow p = l at *
      have hown' := hown
      obtain ⟨hxl, hcase⟩ := hown'
      rcases hcase with ⟨rfl, h0⟩ | ⟨g, cap, cur, rfl, hg1, hg2, hg3, hg4, hg5, hg6⟩
      · obtain rfl : l = [] := List.eq_nil_of_length_eq_zero h0
        have i1 : (0 : Int) < n := by simp at hlen; omega
        have hp1 : IntKind.u64.wrap (nv p + 1) = nv (p + 1) := by rw [IntKind.wrap_u64]; unfold nv; omega
        have Hp : Hid (p + 1 ≤ lim ∧ 2 ≤ p + 1) := ⟨hpp, by omega⟩
        have Hn : Hid (primesBelow (p + 1) = [p]) := by show _ = _; rw [Hnx.out]; rfl
        obtain ⟨i0, hi, hz0, hz1, hz2⟩ := info_parts info60
        have hn1 := has_new wr #[.int .u64 (nv p)] 82 wr.heap.size rfl
        have hBs : Hid (w.heap.size ≤ wr.heap.size) := hB.size
        clear hpos Hnx hxl h0
        go_wp2_with fail
        go_loop [5, 6] (fun b i => i = .int .i64 0 ∧ b = .bool true) (fun _ i => 0)
        case atStart => exact ⟨rfl, rfl⟩
        case round =>
          obtain ⟨rfl, rfl⟩ := hrel
          go_wp2_with (refine wpList_append_own _ rfl _ _ 93 rfl w.heap.size 82 i0 (.int .u64 0) 1 8 Tryd.underlying93 hi hz0 hz1 hz2 rfl (by omega) _ 0 [] rfl (hown.alloc _) ⟨wr.heap.size, 0, none⟩ 1 1 [uv p] rfl rfl (fun j u hu => by rw [Addr.add_mid, Nat.zero_add, hn1.cell, ← hu]; simp [uv]) (fun u hu => by simp at hu; subst hu; rfl) (by simp only [maxLen]; omega) (by omega) (by have := hBs.out; simp; omega) ?_; intro v' w2 hown2 hgr hnil; clear hnil)
          have hB2 : Below w.heap.size w w2 := below_grown hB hgr (fun k hk => by cases hk)
          go_roundw
          case rel => exact ⟨p + 1, Hp.out.2, Hp.out.1, rfl, by rw [Hn.out]; exact hown2, hB2⟩
          case measure => simp [intOf, nv]; omega
      · have i1 : (l.length : Int) < n := by omega
        have hcell : Hid (∀ i, i < l.length → wr.cell? ⟨g, i, none⟩ = some (.int .u64 (nv (l[i]?.getD 0)))) := fun i hi => by
          have := hown.cells (g := g) rfl i (uv (l[i]?.getD 0)) (by simp [hi])
          rw [Addr.add_mid, Nat.zero_add] at this
          exact this
        have Hall : Hid (∀ k, k < l.length → (l.take (k + 1)).all (fun q => p % q != 0) = ((l.take k).all (fun q => p % q != 0) && (p % (l[k]?.getD 0) != 0))) := fun k hk => by
          rw [List.take_succ_eq_append_getElem hk, List.all_append]; simp [hk]
        have Hend : Hid (∀ k, (l.take k).all (fun q => p % q != 0) = false → l.all (fun q => p % q != 0) = false) := fun k h => by
          rw [← List.take_append_drop k l, List.all_append, h]; rfl
        have hp1 : IntKind.u64.wrap (nv p + 1) = nv (p + 1) := by rw [IntKind.wrap_u64]; unfold nv; omega
        have Hp : Hid (p + 1 ≤ lim ∧ 2 ≤ p + 1) := ⟨hpp, by omega⟩
        have hpos' : Hid (∀ q : Nat, q ∈ l → 2 ≤ q ∧ q < p) := hpos
        have Hg : Hid (n ≤ 64 ∧ l.length < n ∧ w.heap.size ≤ wr.heap.size) := ⟨hn, hlen, hB.size⟩
        clear hpos hg6 hg5 hg4 hg2 hxl hg1
        go_wp2_with fail
        go_loop [5, 6] (fun b i => ∃ k : Nat, k ≤ l.length ∧ i = .int .i64 k ∧ b = .bool ((l.take k).all (fun q => p % q != 0))) (fun _ i => l.length - (intOf i).toNat)
        case atStart => exact ⟨0, by omega, rfl, rfl⟩
        case round =>
          obtain ⟨k, hk, rfl, rfl⟩ := hrel
          by_cases hkl : k < l.length
          · have i2 : (k : Int) < l.length := by omega
            have hc := hcell.out k hkl
            have Ha := Hall.out k hkl
            have hq := hpos'.out (l[k]?.getD 0) (by rw [List.getElem?_eq_getElem hkl]; exact List.getElem_mem _)
            generalize l[k]?.getD 0 = q at *
            generalize hbb : (l.take k).all (fun q => p % q != 0) = b at *
            cases b with
            | true =>
              have z1 : ¬ nv q = 0 := by unfold nv; omega
              have z2 : (nv p).tmod (nv q) = nv (p % q) := by unfold nv; rw [Int.tmod_eq_emod_of_nonneg (by omega)]; rfl
              have z3 : IntKind.u64.wrap (nv (p % q)) = nv (p % q) := wr64 _ (by have := Nat.mod_lt p (show q > 0 by omega); omega)
              have z4 : (nv (p % q) != 0) = (p % q != 0) := by
                rw [Bool.eq_iff_iff, bne_iff_ne, bne_iff_ne]; unfold nv; omega
              have Ha' : Hid ((l.take (k + 1)).all (fun q => p % q != 0) = (p % q != 0)) := by show _ = _; rw [Ha]; rfl
              clear Ha hbb hq
              generalize p % q = m at *
              go_wp2_with fail
              go_round
              case rel => exact ⟨k + 1, by omega, by go_num, by rw [Ha'.out]⟩
              case measure => simp [intOf]; omega
            | false =>
              have He := Hend.out k hbb
              have Hn : Hid (primesBelow (p + 1) = l) := by show _ = _; rw [Hnx.out, He]; rfl
              clear He hbb Ha
              go_wp2_with fail
              go_roundw
              case rel => exact ⟨p + 1, Hp.out.2, Hp.out.1, rfl, by rw [Hn.out]; exact hown, hB⟩
              case measure => simp [intOf, nv]; omega
          · have ek : k = l.length := by omega
            subst ek
            rw [List.take_length]
            generalize hbb : l.all (fun q => p % q != 0) = b at *
            cases b with
            | false =>
              have Hn : Hid (primesBelow (p + 1) = l) := by show _ = _; rw [Hnx.out]; rfl
              go_wp2_with fail
              go_roundw
              case rel => exact ⟨p + 1, Hp.out.2, Hp.out.1, rfl, by rw [Hn.out]; exact hown, hB⟩
              case measure => simp [intOf, nv]; omega
            | true =>
              have Hn : Hid (primesBelow (p + 1) = l ++ [p]) := by show _ = _; rw [Hnx.out]; rfl
              obtain ⟨i0, hi, hz0, hz1, hz2⟩ := info_parts info60
              have hn1 := has_new wr #[.int .u64 (nv p)] 82 wr.heap.size rfl
              have hg1 : Hid (w.heap.size ≤ g) := (hown.lt g rfl).1
              clear hbb Hnx Hend
              go_wp2_with (refine wpList_append_own _ rfl _ _ 93 rfl w.heap.size 82 i0 (.int .u64 0) 1 8 Tryd.underlying93 hi hz0 hz1 hz2 rfl (by omega) _ l.length (l.map uv) rfl (hown.alloc _) ⟨wr.heap.size, 0, none⟩ 1 1 [uv p] rfl rfl (fun j u hu => by rw [Addr.add_mid, Nat.zero_add, hn1.cell, ← hu]; simp [uv]) (fun u hu => by simp at hu; subst hu; rfl) (by have := Hg.out; simp only [maxLen]; omega) (by have := Hg.out; omega) (by have := Hg.out; simp; omega) ?_; intro v' w2 hown2 hgr hnil; clear hnil)
              have hB2 : Below w.heap.size w w2 := below_grown hB hgr (fun k hk => by cases hk; exact hg1.out)
              go_roundw
              case rel => exact ⟨p + 1, Hp.out.2, Hp.out.1, rfl, by rw [Hn.out, List.length_append, List.map_append]; exact hown2, hB2⟩
              case measure => simp [intOf, nv]; omega
    · have ep : p = lim := by omega
      subst ep
      have hlen := hl.eq
      rw [hlen] at hown
      have hown' := hown
      obtain ⟨hxl, hcase⟩ := hown'
      rcases hcase with ⟨rfl, h0⟩ | ⟨g, cap, cur, rfl, hg1, hg2, hg3, hg4, hg5, hg6⟩
      · subst h0
        clear hxl hlen hl
        go_wp2_with fail
        go_ret
        exact ⟨_, rfl, hown, hB⟩
      · clear hxl hlen hl hg2 hg5 hg6 hg4
        go_wp2_with fail
        go_ret
        exact ⟨_, rfl, hown, hB⟩
end Go.Proofs.YtcmkjgodgocdfaaDoor
/- The document's words. -/
namespace Go.Proofs.YtcmkjgodgocdfaaDoor
open Go.RowKit

theorem ownsRow_mono {w : World} {base base' : Nat} {e : TypeId} {size : Nat} {v : Value} {n : Nat} {xs : List Value} (h : w.ownsRow base e size v n xs) (hb : base' ≤ base) : w.ownsRow base' e size v n xs := by
  obtain ⟨h1, h2⟩ := h
  refine ⟨h1, ?_⟩
  rcases h2 with h2 | ⟨g, cap, cur, a, b, c⟩
  · exact .inl h2
  · exact .inr ⟨g, cap, cur, a, Nat.le_trans hb b, c⟩
theorem info65 : (Tryd.prog.info? 87).map (fun i => (i.zero, i.size, i.bytes)) = some (some (.int .u32 0), 1, 4) := by kernel_rfl
def w32 (x : Wd) : Value := .int .u32 (wv x)
def wordsL (cube : Bool) : List Wd := if cube then (List.range 64).map cubeW else (List.range 8).map squareW
def wordsN (cube : Bool) : Nat := if cube then 64 else 8
def wordsLim (cube : Bool) : Nat := if cube then 312 else 20
theorem wordsL_eq (cube : Bool) : (primesBelow (wordsLim cube)).map (fun p => rootW p cube) = wordsL cube := by
  cases cube
  · exact square_words
  · exact cube_words
theorem words_lim (cube : Bool) : Lim (wordsN cube) (wordsLim cube) := by
  cases cube
  · exact lim8
  · exact lim64

set_option maxRecDepth 10000 in
set_option maxHeartbeats 1000000 in
theorem words_any (cube : Bool) (w : World) :
    Calls Tryd.prog 48 #[.bool cube] w fun e w' => ∃ v, e = .returned v ∧ w'.ownsRow w.heap.size 87 1 v (wordsN cube) ((wordsL cube).map w32) ∧ Below w.heap.size w w' := by
  have hlim := words_lim cube
  have hpr := primes_any (wordsN cube) (wordsLim cube) hlim (by cases cube <;> decide) w
  have hwl : Hid ((primesBelow (wordsLim cube)).map (fun p => rootW p cube) = wordsL cube) := wordsL_eq cube
  have hlen : Hid ((primesBelow (wordsLim cube)).length = wordsN cube) := hlim.eq
  have hN : Hid (0 < wordsN cube ∧ wordsN cube ≤ 64) := by cases cube <;> exact ⟨by decide, by decide⟩
  have hNe : Hid ((cube = true → wordsN cube = 64) ∧ (cube = false → wordsN cube = 8)) := ⟨fun h => by rw [h]; rfl, fun h => by rw [h]; rfl⟩
  generalize primesBelow (wordsLim cube) = P at *
  generalize wordsL cube = L at *
  generalize wordsN cube = N at *
  clear hlim
  have key : Calls Tryd.prog 48 #[.bool cube] w fun e w' => ∃ v, e = .returned v ∧ w'.ownsRow w.heap.size 87 1 v N ((P.map (fun p => rootW p cube)).map w32) ∧ Below w.heap.size w w' := by
    cases cube
    case true =>
      obtain rfl : N = 64 := hNe.out.1 rfl
      go_enter Tryd.func48, Tryd.ntmps48
      go_wp2_with fail
      refine hpr.mono ?_
      rintro e W1 ⟨v, rfl, hown, hB⟩
      obtain ⟨hxl, hcase⟩ := id hown
      rcases hcase with ⟨rfl, h0⟩ | ⟨g, cap, cur, rfl, hg1, hg2, hg3, hg4, hg5, hg6⟩
      · exact absurd h0 (by decide)
      have hcell : Hid (∀ i, i < 64 → W1.cell? ⟨g, i, none⟩ = some (.int .u64 (nv (P[i]?.getD 0)))) := fun i hi => by
        have := hown.cells (g := g) rfl i (uv (P[i]?.getD 0)) (by simp [show i < P.length by have := hlen.out; omega])
        rw [Addr.add_mid, Nat.zero_add] at this
        exact this
      have hgl : g < W1.heap.size := (hown.lt g rfl).2
      clear hxl hg2 hg4 hg5 hg6 hown hpr
      obtain ⟨i0, hi, hz0, hz1, hz2⟩ := info_parts info65
      go_wp2_with fail
      go_loopw [5, 6] (fun v i wr => ∃ k : Nat, k ≤ 64 ∧ i = .int .i64 k ∧ wr.ownsRow W1.heap.size 87 1 v k (((P.take k).map (fun p => rootW p true)).map w32) ∧ Below W1.heap.size W1 wr) (fun _ i _ => 64 - (intOf i).toNat)
      case atStart => exact ⟨0, by omega, rfl, World.ownsRow_nil _ _ _ _, Below.refl _ _⟩
      case round =>
        obtain ⟨k, hk, rfl, how, hBr⟩ := hrel
        by_cases hk64 : k < 64
        · have hc := hcell.out k hk64
          have hc' : wr.cell? ⟨g, k, none⟩ = some (.int .u64 (nv (P[k]?.getD 0))) := by rw [World.cell?_of_block (w := W1) (hBr.block g hgl)]; exact hc
          have Ht : Hid (P.take (k + 1) = P.take k ++ [P[k]?.getD 0]) := by
            show _ = _
            have hkl : k < P.length := by have := hlen.out; omega
            rw [List.take_succ_eq_append_getElem hkl]; simp [hkl]
          have i1 : (k : Int) < 64 := by omega
          generalize P[k]?.getD 0 = p at *
          clear hc
          have hn1 := has_new wr #[.int .u32 (wv (rootW p true))] 87 wr.heap.size rfl
          have hBs : Hid (W1.heap.size ≤ wr.heap.size) := hBr.size
          go_wp2_with (first
            | (go_at_call 55; refine (root_any _ _ _).mono ?_; rintro e w' ⟨rfl, hw⟩; obtain rfl := hw.symm)
            | (refine wpList_append_own _ rfl _ _ 84 rfl W1.heap.size 87 i0 (.int .u32 0) 1 4 Tryd.underlying84 hi hz0 hz1 hz2 rfl (by omega) _ k (((P.take k).map (fun p => rootW p true)).map w32) rfl (how.alloc _) ⟨wr.heap.size, 0, none⟩ 1 1 [w32 (rootW p true)] rfl rfl (fun j u hu => by rw [Addr.add_mid, Nat.zero_add, hn1.cell, ← hu]; simp [w32]) (fun u hu => by simp at hu; subst hu; rfl) (by simp only [maxLen]; omega) (by omega) (by have := hBs.out; simp; omega) ?_; intro v' w2 hown2 hgr hnil; clear hnil))
          go_roundw
          case rel => exact ⟨k + 1, by omega, by go_num, by rw [Ht.out, List.map_append, List.map_append]; exact hown2, below_grown hBr hgr (fun k hk => (how.lt k hk).1)⟩
          case measure => simp [intOf]; omega
        · obtain rfl : k = 64 := by omega
          rw [List.take_of_length_le (by have := hlen.out; omega)] at how
          have hBw : Below w.heap.size w wr := hB.trans (hBr.mono hB.size)
          have Ho := ownsRow_mono how hB.size
          clear how
          go_wp2_with fail
          go_ret
          exact ⟨_, rfl, Ho, hBw⟩
    case false =>
      obtain rfl : N = 8 := hNe.out.2 rfl
      go_enter Tryd.func48, Tryd.ntmps48
      go_wp2_with fail
      refine hpr.mono ?_
      rintro e W1 ⟨v, rfl, hown, hB⟩
      obtain ⟨hxl, hcase⟩ := id hown
      rcases hcase with ⟨rfl, h0⟩ | ⟨g, cap, cur, rfl, hg1, hg2, hg3, hg4, hg5, hg6⟩
      · exact absurd h0 (by decide)
      have hcell : Hid (∀ i, i < 8 → W1.cell? ⟨g, i, none⟩ = some (.int .u64 (nv (P[i]?.getD 0)))) := fun i hi => by
        have := hown.cells (g := g) rfl i (uv (P[i]?.getD 0)) (by simp [show i < P.length by have := hlen.out; omega])
        rw [Addr.add_mid, Nat.zero_add] at this
        exact this
      have hgl : g < W1.heap.size := (hown.lt g rfl).2
      clear hxl hg2 hg4 hg5 hg6 hown hpr
      obtain ⟨i0, hi, hz0, hz1, hz2⟩ := info_parts info65
      go_wp2_with fail
      go_loopw [5, 6] (fun v i wr => ∃ k : Nat, k ≤ 8 ∧ i = .int .i64 k ∧ wr.ownsRow W1.heap.size 87 1 v k (((P.take k).map (fun p => rootW p false)).map w32) ∧ Below W1.heap.size W1 wr) (fun _ i _ => 8 - (intOf i).toNat)
      case atStart => exact ⟨0, by omega, rfl, World.ownsRow_nil _ _ _ _, Below.refl _ _⟩
      case round =>
        obtain ⟨k, hk, rfl, how, hBr⟩ := hrel
        by_cases hk64 : k < 8
        · have hc := hcell.out k hk64
          have hc' : wr.cell? ⟨g, k, none⟩ = some (.int .u64 (nv (P[k]?.getD 0))) := by rw [World.cell?_of_block (w := W1) (hBr.block g hgl)]; exact hc
          have Ht : Hid (P.take (k + 1) = P.take k ++ [P[k]?.getD 0]) := by
            show _ = _
            have hkl : k < P.length := by have := hlen.out; omega
            rw [List.take_succ_eq_append_getElem hkl]; simp [hkl]
          have i1 : (k : Int) < 8 := by omega
          generalize P[k]?.getD 0 = p at *
          clear hc
          have hn1 := has_new wr #[.int .u32 (wv (rootW p false))] 87 wr.heap.size rfl
          have hBs : Hid (W1.heap.size ≤ wr.heap.size) := hBr.size
          go_wp2_with (first
            | (go_at_call 55; refine (root_any _ _ _).mono ?_; rintro e w' ⟨rfl, hw⟩; obtain rfl := hw.symm)
            | (refine wpList_append_own _ rfl _ _ 84 rfl W1.heap.size 87 i0 (.int .u32 0) 1 4 Tryd.underlying84 hi hz0 hz1 hz2 rfl (by omega) _ k (((P.take k).map (fun p => rootW p false)).map w32) rfl (how.alloc _) ⟨wr.heap.size, 0, none⟩ 1 1 [w32 (rootW p false)] rfl rfl (fun j u hu => by rw [Addr.add_mid, Nat.zero_add, hn1.cell, ← hu]; simp [w32]) (fun u hu => by simp at hu; subst hu; rfl) (by simp only [maxLen]; omega) (by omega) (by have := hBs.out; simp; omega) ?_; intro v' w2 hown2 hgr hnil; clear hnil))
          go_roundw
          case rel => exact ⟨k + 1, by omega, by go_num, by rw [Ht.out, List.map_append, List.map_append]; exact hown2, below_grown hBr hgr (fun k hk => (how.lt k hk).1)⟩
          case measure => simp [intOf]; omega
        · obtain rfl : k = 8 := by omega
          rw [List.take_of_length_le (by have := hlen.out; omega)] at how
          have hBw : Below w.heap.size w wr := hB.trans (hBr.mono hB.size)
          have Ho := ownsRow_mono how hB.size
          clear how
          go_wp2_with fail
          go_ret
          exact ⟨_, rfl, Ho, hBw⟩
  rw [hwl.out] at key
  exact key
end Go.Proofs.YtcmkjgodgocdfaaDoor
/- Laws for the document's block: an append inside a region that draws its order. -/
namespace Go.Proofs.YtcmkjgodgocdfaaDoor
open Go.RowKit

theorem bm_zx' (b : UInt8) : IntKind.u32.wrap (bv b) = wv (zx b) := by rw [IntKind.wrap_u32]; exact bm_zx b
theorem wr_shl (x : Wd) (n : Nat) (m : Int) (hm : m = 2 ^ n) : IntKind.u32.wrap (wv x * m) = wv (x <<< n) := by rw [IntKind.wrap_u32, hm]; exact wm_shl x n
/-- An append onto what the call owns, at a step of a region that draws its order. -/
theorem step_append_own {P : Program} {ops : Array Oper} {o : Oper} {a : Act} {w : World} {K : Act → World → Prop} {Q : Exit → Act → World → Prop} {E : Prop} (hgd : o.guard = none) (s x : Operand) (t : TypeId)
    (ho : o.op = .call { callee := .builtin .append, args := #[s, x], argTypes := #[t, t] })
    (base : Nat) (e : TypeId) (i : TypeInfo) (z : Value) (size bytes : Nat) (ht : P.underlying t = some (.slice e)) (hi : P.info? e = some i) (hz : i.zero = some z)
    (hsize : i.size = size) (hby : i.bytes = bytes) (hzs : z.cells.size = size) (hsz : 0 < size)
    (v : Value) (n : Nat) (xs : List Value) (hs : a.eval s = v) (hown : w.ownsRow base e size v n xs)
    (ad : Addr) (m c : Nat) (news : List Value) (hx : a.eval x = .slice (some ad) m c) (hl : news.length = m * size) (hnews : ∀ j u, news[j]? = some u → w.cell? (ad.add j) = some u) (h1 : ∀ u ∈ news, u.oneCell' = true)
    (h63 : n + m ≤ maxLen) (hbytes : (n + m) * bytes ≤ 140737488355328) (hbase : base ≤ w.heap.size)
    (h : ∀ v' w', w'.ownsRow base e size v' (n + m) (xs ++ news) → w.grownBy w' v.ownBlock → K (a.put o.dst v') w') :
    if Region.wanted o (yielded ops a.tmps) = true then Oper.wp P o a w K Q else E := by
  have hw : Region.wanted o (yielded ops a.tmps) = true := by simp [Region.wanted, hgd]
  rw [if_pos hw]
  exact wp_append_own w s x t ho base e i z size bytes ht hi hz hsize hby hzs hsz v n xs hs hown ad m c news hx hl hnews h1 h63 hbytes hbase fun v' w' h2 h3 _ => h v' w' h2 h3

end Go.Proofs.YtcmkjgodgocdfaaDoor
/- An append onto what the call owns leaves what lay in the old row. -/
namespace Go.Proofs.YtcmkjgodgocdfaaDoor
open Go.RowKit

theorem append_keeps {P : Program} (w : World) (base : Nat) (t ty e : TypeId) (i : TypeInfo) (z : Value) (size bytes : Nat) (ht : P.underlying t = some (.slice e)) (hi : P.info? e = some i) (hz : i.zero = some z)
    (hsize : i.size = size) (hby : i.bytes = bytes)
    (v : Value) (n : Nat) (xs : List Value) (hown : w.ownsRow base e size v n xs)
    (a : Addr) (m c : Nat) (news : List Value) (hl : news.length = m * size) (hnews : ∀ j u, news[j]? = some u → w.cell? (a.add j) = some u) (h1 : ∀ u ∈ news, u.oneCell' = true)
    (h63 : n + m ≤ maxLen) (hbytes : (n + m) * bytes ≤ 140737488355328) (v' : Value) (w' : World)
    (hr : (Builtin.append_ #[t, t] ty #[v, .slice (some a) m c]).run P w = .ok v' w') :
    ∀ g, v.ownBlock = some g → ∀ j u, xs[j]? = some u → w'.cell? ⟨g, j, none⟩ = some u := by
  subst hsize
  subst hby
  have hsmall : n + m ≤ 9223372036854775807 := by simp only [maxLen] at h63; omega
  intro g0 hg0 j u hu
  rcases hown.2 with ⟨rfl, rfl⟩ | ⟨g, cap, cur, rfl, hbg, hg, hnc, hcm, hcs, htake⟩
  · simp [Value.ownBlock] at hg0
  · obtain rfl : g = g0 := by simpa [Value.ownBlock] using hg0
    by_cases hroom : n + m ≤ cap
    · have hfit : n * i.size + news.length ≤ cur.size := by rw [hl, hcs, ← Nat.add_mul]; exact Nat.mul_le_mul_right _ hroom
      have hr2 := run_append_room (P := P) w t ty e i ht hi g n cap cur hg a m c news hl hnews h1 hroom hfit
      rw [hr] at hr2
      injection hr2 with e1 e2
      rw [e2, cell_of_row _ g j _ e (0, 0) (setRow_heap w g cur _ e _ hg), htake]
      have hj : j < xs.length := (List.getElem?_eq_some_iff.1 hu).1
      simp only [List.getElem?_toArray, List.append_assoc]
      rw [List.getElem?_append_left hj]; exact hu
    · have holds : ∀ j u, xs[j]? = some u → w.cell? ((⟨g, 0, none⟩ : Addr).add j) = some u := hown.cells (g := g) rfl
      have hr2 := run_append_grow (P := P) w t ty e i z ht hi hz ⟨g, 0, none⟩ n cap xs hown.1 holds a m c news hl hnews (by omega) (by omega) (growslice_fits (by omega) hbytes)
      rw [hr] at hr2
      injection hr2 with e1 e2
      rw [e2]
      have h2 := holds j u hu
      rw [Addr.add_mid, Nat.zero_add] at h2
      rw [World.cell?_of_block (w := w) (heap_alloc_old w.drew _ (Array.getElem?_eq_some_iff.1 hg).1)]
      exact h2

/-- step_append_own, with what stays. -/
theorem step_append_own2 {P : Program} {ops : Array Oper} {o : Oper} {a : Act} {w : World} {K : Act → World → Prop} {Q : Exit → Act → World → Prop} {E : Prop} (hgd : o.guard = none) (s x : Operand) (t : TypeId)
    (ho : o.op = .call { callee := .builtin .append, args := #[s, x], argTypes := #[t, t] })
    (base : Nat) (e : TypeId) (i : TypeInfo) (z : Value) (size bytes : Nat) (ht : P.underlying t = some (.slice e)) (hi : P.info? e = some i) (hz : i.zero = some z)
    (hsize : i.size = size) (hby : i.bytes = bytes) (hzs : z.cells.size = size) (hsz : 0 < size)
    (v : Value) (n : Nat) (xs : List Value) (hs : a.eval s = v) (hown : w.ownsRow base e size v n xs)
    (ad : Addr) (m c : Nat) (news : List Value) (hx : a.eval x = .slice (some ad) m c) (hl : news.length = m * size) (hnews : ∀ j u, news[j]? = some u → w.cell? (ad.add j) = some u) (h1 : ∀ u ∈ news, u.oneCell' = true)
    (h63 : n + m ≤ maxLen) (hbytes : (n + m) * bytes ≤ 140737488355328) (hbase : base ≤ w.heap.size)
    (h : ∀ v' w', w'.ownsRow base e size v' (n + m) (xs ++ news) → w.grownBy w' v.ownBlock → (∀ g, v.ownBlock = some g → ∀ j u, xs[j]? = some u → w'.cell? ⟨g, j, none⟩ = some u) → K (a.put o.dst v') w') :
    if Region.wanted o (yielded ops a.tmps) = true then Oper.wp P o a w K Q else E := by
  have hw : Region.wanted o (yielded ops a.tmps) = true := by simp [Region.wanted, hgd]
  rw [if_pos hw]
  obtain ⟨v', w', hr, h2, h3, h4⟩ := run_append_own (P := P) w base t o.type e i z size bytes ht hi hz hsize hby hzs hsz v n xs hown ad m c news hl hnews h1 h63 hbytes hbase
  have hk := append_keeps (P := P) w base t o.type e i z size bytes ht hi hz hsize hby v n xs hown ad m c news hl hnews h1 h63 hbytes v' w' hr
  unfold Oper.wp execOp
  simp only [ho, resolve, invoke, builtin, Sem.run_bind, Sem.run_pure, Result.andThen_ok, List.map_toArray, List.map_cons, List.map_nil, hs, hx, hr]
  exact h v' w' h2 h3 hk
end Go.Proofs.YtcmkjgodgocdfaaDoor
/- The document's block: the state behind a block. -/
namespace Go.Proofs.YtcmkjgodgocdfaaDoor
open Go.RowKit
attribute [local go_sem] wm_and wm_xor wm_or

theorem grown_low {wr X w2 : World} {base e size n : Nat} {v : Value} {xs : List Value} (how : wr.ownsRow base e size v n xs) (hgr : X.grownBy w2 v.ownBlock) (hX : ∃ ob, X = (wr.alloc ob).drew) (b : Nat) (hb : b < base) (hbr : b < wr.heap.size) : w2.heap[b]? = wr.heap[b]? := by
  obtain ⟨ob, rfl⟩ := hX
  have := hgr.block b (by show b < (wr.alloc ob).heap.size; simp; omega) (fun e => by have := (how.lt b e.symm).1; omega)
  rw [this]
  show (wr.alloc ob).heap[b]? = _
  rw [alloc_get, if_neg (by omega)]
theorem grown_below {B : Nat} {w wr X w2 : World} {row : Option Nat} (h : Below B w wr) (hgr : X.grownBy w2 row) (hX : ∃ ob, X = (wr.alloc ob).drew) (hrow : ∀ k, row = some k → B ≤ k) (hs : B ≤ w.heap.size := by exact Nat.le_refl _) : Below B w w2 := by
  obtain ⟨ob, rfl⟩ := hX
  have h1 : (wr.alloc ob).grownBy w2 row := ⟨hgr.os, hgr.tape, hgr.output, hgr.size, hgr.block⟩
  exact below_grown h h1 hrow hs
/-- The first k words of a block, as a row that the call owns. -/
def wrow (bs : List UInt8) (k : Nat) : List Value := (List.range k).map fun j => w32 (Wat bs j)
theorem wrow_next (bs : List UInt8) (k : Nat) : wrow bs (k + 1) = wrow bs k ++ [w32 (Wat bs k)] := by simp [wrow, List.range_succ]
theorem wrow_get (bs : List UInt8) (k j : Nat) (h : j < k) : (wrow bs k)[j]? = some (w32 (Wat bs j)) := by simp [wrow, h]
/-- Where a row of words lies. -/
theorem wrow_at {W : World} {base : Nat} {v : Value} {bs : List UInt8} {k : Nat} (h : W.ownsRow base 87 1 v k (wrow bs k)) (hk : 0 < k) :
    ∃ g cap, v = .slice (some ⟨g, 0, none⟩) k cap ∧ base ≤ g ∧ g < W.heap.size ∧ k ≤ cap ∧ ∀ j, j < k → W.cell? ⟨g, j, none⟩ = some (.int .u32 (wv (Wat bs j))) := by
  obtain ⟨hl, hc⟩ := id h
  rcases hc with ⟨rfl, h0⟩ | ⟨g, cap, cur, rfl, hb, hg, hle, _, _, _⟩
  · omega
  · refine ⟨g, cap, rfl, hb, (h.lt g rfl).2, hle, fun j hj => ?_⟩
    have := h.cells (g := g) rfl j _ (wrow_get bs k j hj)
    rwa [Addr.add_mid, Nat.zero_add] at this
theorem four_rd (b0 b1 b2 b3 : UInt8) : rd [b0, b1, b2, b3] = zx b0 <<< 24 + zx b1 <<< 16 + zx b2 <<< 8 + zx b3 := by
  have key : ∀ (x : Wd) (y : UInt8) , ((x <<< 8) ||| zx y) = x <<< 8 + zx y := by
    intro x y
    rw [← BitVec.add_eq_or_of_and_eq_zero]
    apply BitVec.eq_of_getLsbD_eq
    intro i hi
    simp only [BitVec.getLsbD_and, BitVec.getLsbD_shiftLeft, BitVec.getLsbD_zero]
    by_cases h : i < 8
    · simp [h]
    · have : (zx y).getLsbD i = false := by
        unfold zx
        rw [BitVec.getLsbD_ofNat]
        have hy := y.toNat_lt
        rw [Nat.testBit_lt_two_pow (Nat.lt_of_lt_of_le hy (Nat.pow_le_pow_right (by omega) (by omega)))]
        simp
      rw [this]; simp
  show ((((((0 : Wd) <<< 8 ||| zx b0) <<< 8) ||| zx b1) <<< 8 ||| zx b2) <<< 8 ||| zx b3) = _
  rw [key, key, key, key]
  apply BitVec.eq_of_toNat_eq
  simp only [BitVec.toNat_add, BitVec.toNat_shiftLeft, Nat.shiftLeft_eq, zx, BitVec.toNat_ofNat]
  have h0 := b0.toNat_lt
  have h1 := b1.toNat_lt
  have h2 := b2.toNat_lt
  have h3 := b3.toNat_lt
  omega
theorem Wat_four (bs : List UInt8) (hbs : bs.length = 64) (k : Nat) (h : k < 16) : Wat bs k = zx (bs[4 * k]?.getD 0) <<< 24 + zx (bs[4 * k + 1]?.getD 0) <<< 16 + zx (bs[4 * k + 2]?.getD 0) <<< 8 + zx (bs[4 * k + 3]?.getD 0) := by
  rw [Wat_lo bs k h, ← four_rd]
  congr 1
  apply List.ext_getElem?
  intro j
  unfold four
  rw [List.getElem?_take, List.getElem?_drop]
  have : ∀ m, m < 64 → bs[m]? = some (bs[m]?.getD 0) := fun m hm => by rw [List.getElem?_eq_getElem (by omega)]; rfl
  match j with
  | 0 => simpa using this (4 * k) (by omega)
  | 1 => simpa using this (4 * k + 1) (by omega)
  | 2 => simpa using this (4 * k + 2) (by omega)
  | 3 => simpa using this (4 * k + 3) (by omega)
  | n + 4 => simp; omega
theorem tdiv_shr (x : Wd) (n : Nat) (m : Int) (hm : m = 2 ^ n) : (wv x).tdiv m % 4294967296 = wv (x >>> n) := by
  have h0 := wv_nonneg x
  rw [Int.tdiv_eq_ediv_of_nonneg h0, hm, wm_shr]
  have h1 := wv_nonneg (x >>> n)
  have h2 := wv_lt (x >>> n)
  omega
def srow (s : St) : List Value := (List.range 8).map fun j => w32 (s.get j)
theorem srow_get (s : St) (j : Nat) (h : j < 8) : (srow s)[j]? = some (w32 (s.get j)) := by simp [srow, h]
theorem srow_at {W : World} {base : Nat} {v : Value} {s : St} (h : W.ownsRow base 87 1 v 8 (srow s)) :
    ∃ g cap, v = .slice (some ⟨g, 0, none⟩) 8 cap ∧ base ≤ g ∧ g < W.heap.size ∧ 8 ≤ cap ∧ ∀ j, j < 8 → W.cell? ⟨g, j, none⟩ = some (.int .u32 (wv (s.get j))) := by
  obtain ⟨hl, hc⟩ := id h
  rcases hc with ⟨rfl, h0⟩ | ⟨g, cap, cur, rfl, hb, hg, hle, _, _, _⟩
  · omega
  · refine ⟨g, cap, rfl, hb, (h.lt g rfl).2, hle, fun j hj => ?_⟩
    have := h.cells (g := g) rfl j _ (srow_get s j hj)
    rwa [Addr.add_mid, Nat.zero_add] at this
theorem wm_neg (x : Wd) : (4294967295 - wv x) % (4294967296 : Int) = wv (~~~x) := by
  unfold wv
  rw [BitVec.toNat_not]
  have := x.isLt
  omega
theorem wr_neg (x : Wd) : IntKind.u32.wrap (4294967295 - wv x) = wv (~~~x) := by rw [IntKind.wrap_u32]; exact wm_neg x
theorem refturned_int (x : Wd) (n : Int) (h0 : 0 ≤ n) (hn : n < 32) (w : World) :
    Calls Tryd.prog 56 #[.int .u32 (wv x), .int .i64 n] w fun e w' => e = .returned (.int .u32 (wv (x.rotateRight n.toNat))) ∧ w' = w := by
  obtain ⟨m, rfl⟩ : ∃ m : Nat, n = m := ⟨n.toNat, by omega⟩
  exact refturned_any x m (by omega) w
def mrow (s r : St) (k : Nat) : List Value := (List.range 8).map fun j => w32 (if j < k then r.get j + s.get j else r.get j)
theorem mrow_zero (s r : St) : mrow s r 0 = srow r := by simp [mrow, srow]
theorem mrow_get (s r : St) (k j : Nat) (h : j < 8) : (mrow s r k)[j]? = some (w32 (if j < k then r.get j + s.get j else r.get j)) := by simp [mrow, h]
theorem mrow_next (s r : St) (k : Nat) (h : k < 8) : mrow s r (k + 1) = (mrow s r k).set k (w32 (r.get k + s.get k)) := by
  apply List.ext_getElem?
  intro j
  by_cases hj : j < 8
  · rw [mrow_get s r (k + 1) j hj, List.getElem?_set]
    by_cases e : k = j
    · subst e
      have hlen : (mrow s r k).length = 8 := by simp [mrow]
      rw [if_pos (show k < k + 1 by omega), if_pos rfl, if_pos (show k < (mrow s r k).length by omega)]
    · rw [if_neg e, mrow_get s r k j hj]
      by_cases e2 : j < k
      · rw [if_pos e2, if_pos (by omega)]
      · rw [if_neg e2, if_neg (by omega)]
  · rw [List.getElem?_eq_none (by simp [mrow]; omega), List.getElem?_eq_none (by simp [mrow]; omega)]
theorem comp_mrow (s : St) (bs : List UInt8) : srow (comp s bs) = mrow s (rnds s bs 64) 8 := by
  unfold srow mrow
  apply List.map_congr_left
  intro j hj
  have hj8 : j < 8 := by simpa using hj
  rw [if_pos hj8]
  congr 1
  have e : (comp s bs).get j = s.get j + (rnds s bs 64).get j := by
    match j with
    | 0 | 1 | 2 | 3 | 4 | 5 | 6 => rfl
    | n + 7 => rfl
  rw [e, BitVec.add_comm]
theorem ownsRow_set {w : World} {base e g n cap : Nat} {xs : List Value} (h : w.ownsRow base e 1 (.slice (some ⟨g, 0, none⟩) n cap) n xs) (k : Nat) (u : Value) :
    (w.drew.setCell ⟨g, k, none⟩ u).ownsRow base e 1 (.slice (some ⟨g, 0, none⟩) n cap) n (xs.set k u) := by
  obtain ⟨hl, hc⟩ := h
  rcases hc with ⟨e1, _⟩ | ⟨g', cap', cur, e1, hb, hg, hle, hm, hs, ht⟩
  · simp at e1
  · simp at e1
    obtain ⟨rfl, rfl⟩ := e1
    have hh : Has w.drew g cur e := hg
    refine ⟨by simpa using hl, .inr ⟨g, cap, _, rfl, hb, hh.set k u, hle, hm, by simpa using hs, ?_⟩⟩
    rw [← ht]
    simp [List.take_set]
theorem ownsRow_free {w : World} {base e g n cap : Nat} {xs : List Value} (h : w.ownsRow base e 1 (.slice (some ⟨g, 0, none⟩) n cap) n xs) (k : Nat) : w.frozen? ⟨g, k, none⟩ = false := by
  obtain ⟨hl, hc⟩ := h
  rcases hc with ⟨e1, _⟩ | ⟨g', cap', cur, e1, hb, hg, hle, hm, hs, ht⟩
  · simp at e1
  · simp at e1
    obtain ⟨rfl, rfl⟩ := e1
    have hh : Has w g cur e := hg
    exact hh.free k

set_option maxRecDepth 10000 in
set_option maxHeartbeats 4000000 in
theorem block_any (s : St) (bs : List UInt8) (hbs : bs.length = 64) (g0 c0 g1 c1 db o cb : Nat) (w : World)
    (h0 : ∀ j, j < 8 → w.cell? ⟨g0, j, none⟩ = some (.int .u32 (wv (s.get j)))) (hg0 : g0 < w.heap.size)
    (h1 : ∀ j, j < 64 → w.cell? ⟨g1, j, none⟩ = some (.int .u32 (wv (cubeW j)))) (hg1 : g1 < w.heap.size)
    (hd : BytesIn w db o bs) (hdl : db < w.heap.size) :
    Calls Tryd.prog 49 #[.slice (some ⟨g0, 0, none⟩) 8 c0, .slice (some ⟨g1, 0, none⟩) 64 c1, .slice (some ⟨db, o, none⟩) 64 cb] w fun e w' => ∃ v, e = .returned v ∧ w'.ownsRow w.heap.size 87 1 v 8 (srow (comp s bs)) ∧ Below w.heap.size w w' := by
  go_enter Tryd.func49, Tryd.ntmps49
  go_wp2_with fail
  go_loopw [7, 8] (fun v i wr => ∃ k : Nat, k ≤ 16 ∧ i = .int .i64 k ∧ wr.ownsRow w.heap.size 87 1 v k (wrow bs k) ∧ Below w.heap.size w wr) (fun _ i _ => 16 - (intOf i).toNat)
  case atStart => exact ⟨0, by omega, rfl, World.ownsRow_nil _ _ _ _, Below.refl _ _⟩
  case round =>
    obtain ⟨k, hk, rfl, how, hB⟩ := hrel
    by_cases hk16 : k < 16
    · have i1 : (k : Int) < 16 := by omega
      have HW := Wat_four bs hbs k hk16
      have cel : ∀ m, m < 64 → wr.cell? ⟨db, o + m, none⟩ = some (.int .u8 (bv (bs[m]?.getD 0))) := fun m hm => by
        rw [World.cell?_of_block (w := w) (hB.block db hdl)]; exact hd m (by omega)
      obtain ⟨m0, hm0⟩ : ∃ m : Nat, m = 4 * k := ⟨_, rfl⟩
      obtain ⟨m1, hm1⟩ : ∃ m : Nat, m = 4 * k + 1 := ⟨_, rfl⟩
      obtain ⟨m2, hm2⟩ : ∃ m : Nat, m = 4 * k + 2 := ⟨_, rfl⟩
      obtain ⟨m3, hm3⟩ : ∃ m : Nat, m = 4 * k + 3 := ⟨_, rfl⟩
      have e0 : IntKind.i64.wrap (4 * (k : Int)) = (m0 : Int) := by rw [IntKind.wrap_i64]; omega
      have e1 : IntKind.i64.wrap ((m0 : Int) + 1) = (m1 : Int) := by rw [IntKind.wrap_i64]; omega
      have e2 : IntKind.i64.wrap ((m0 : Int) + 2) = (m2 : Int) := by rw [IntKind.wrap_i64]; omega
      have e3 : IntKind.i64.wrap ((m0 : Int) + 3) = (m3 : Int) := by rw [IntKind.wrap_i64]; omega
      rw [← hm1, ← hm2, ← hm3, ← hm0] at HW
      have c0' := cel m0 (by omega)
      have c1' := cel m1 (by omega)
      have c2' := cel m2 (by omega)
      have c3' := cel m3 (by omega)
      have l0 : (m0 : Int) < 64 := by omega
      have l1 : (m1 : Int) < 64 := by omega
      have l2 : (m2 : Int) < 64 := by omega
      have l3 : (m3 : Int) < 64 := by omega
      generalize bs[m0]?.getD 0 = b0 at *
      generalize bs[m1]?.getD 0 = b1 at *
      generalize bs[m2]?.getD 0 = b2 at *
      generalize bs[m3]?.getD 0 = b3 at *
      clear hm0 hm1 hm2 hm3 cel
      have z0 := bm_zx' b0
      have z1 := bm_zx' b1
      have z2 := bm_zx' b2
      have z3 := bm_zx' b3
      have f0 := wr_shl (zx b0) 24 16777216 (by decide)
      have f1 := wr_shl (zx b1) 16 65536 (by decide)
      have f2 := wr_shl (zx b2) 8 256 (by decide)
      have s1 := wr_add (zx b0 <<< 24) (zx b1 <<< 16)
      have s2 := wr_add (zx b0 <<< 24 + zx b1 <<< 16) (zx b2 <<< 8)
      have s3 := wr_add (zx b0 <<< 24 + zx b1 <<< 16 + zx b2 <<< 8) (zx b3)
      have HW' : Hid (Wat bs k = zx b0 <<< 24 + zx b1 <<< 16 + zx b2 <<< 8 + zx b3) := HW
      clear HW
      generalize zx b0 <<< 24 + zx b1 <<< 16 + zx b2 <<< 8 + zx b3 = T at *
      generalize zx b0 <<< 24 + zx b1 <<< 16 + zx b2 <<< 8 = T2 at *
      generalize zx b0 <<< 24 + zx b1 <<< 16 = T1 at *
      generalize zx b0 <<< 24 = X0 at *
      generalize zx b1 <<< 16 = X1 at *
      generalize zx b2 <<< 8 = X2 at *
      obtain ⟨i0, hi, hz0, hz1, hz2⟩ := info_parts info65
      have hdr : db < wr.heap.size := Nat.lt_of_lt_of_le hdl hB.size
      have hal : ∀ (ob : Obj) (a : Addr), a.block < wr.heap.size → ((wr.alloc ob).drew).cell? a = wr.cell? a := fun ob a ha => by
        refine World.cell?_of_block (w := wr) ?_
        show (wr.alloc ob).heap[a.block]? = _
        rw [alloc_get, if_neg (by omega)]
      have hn1 := has_new wr #[.int .u32 (wv T)] 87 wr.heap.size rfl
      have hwo := how.lt
      have hsz : Hid (w.heap.size ≤ wr.heap.size) := hB.size
      clear h0 h1 hg0 hg1
      go_wp2_with fail
      go_region_held3 (fun W => W.cell? ⟨db, o + m0, none⟩ = some (.int .u8 (bv b0)) ∧ W.cell? ⟨db, o + m1, none⟩ = some (.int .u8 (bv b1)) ∧ W.cell? ⟨db, o + m2, none⟩ = some (.int .u8 (bv b2)) ∧ W.cell? ⟨db, o + m3, none⟩ = some (.int .u8 (bv b3))) (first | exact ⟨c0', c1', c2', c3'⟩ | exact ⟨(hal _ _ hdr).trans c0', (hal _ _ hdr).trans c1', (hal _ _ hdr).trans c2', (hal _ _ hdr).trans c3'⟩ | exact ⟨(World.cell?_of_block (w := wr) hkp).trans c0', (World.cell?_of_block (w := wr) hkp).trans c1', (World.cell?_of_block (w := wr) hkp).trans c2', (World.cell?_of_block (w := wr) hkp).trans c3'⟩) ((refine step_append_own rfl _ _ 84 rfl w.heap.size 87 i0 (.int .u32 0) 1 4 Tryd.underlying84 hi hz0 hz1 hz2 rfl (by omega) _ k _ rfl (how.alloc _) ⟨wr.heap.size, 0, none⟩ 1 1 [w32 T] rfl rfl (fun j u hu => by rw [Addr.add_mid, Nat.zero_add]; refine (hn1.cell j).trans ?_; rw [← hu]; simp [w32]) (fun u hu => by simp at hu; subst hu; rfl) (by simp only [maxLen]; omega) (by omega) (by have := hB.size; simp; omega) ?_; intro v' w2 hown2 hgr; have hkp : w2.heap[db]? = wr.heap[db]? := grown_low how hgr ⟨_, rfl⟩ db hdl hdr))
      go_wp2_with fail
      go_roundw
      case rel => exact ⟨k + 1, by omega, by go_num, by rw [wrow_next, HW'.out]; exact hown2, grown_below hB hgr ⟨_, rfl⟩ (fun k hk => (hwo k hk).1)⟩
      case measure => simp [intOf]; omega
    · obtain rfl : k = 16 := by omega
      clear hd hdl hk16 hk
      rw [show (((16 : Nat) : Int)) = 16 from rfl]
      go_wp2_with fail
      rename_i wr0
      go_loopw [7, 9] (fun v i wr => ∃ k : Nat, 16 ≤ k ∧ k ≤ 64 ∧ i = .int .i64 k ∧ wr.ownsRow w.heap.size 87 1 v k (wrow bs k) ∧ Below w.heap.size w wr) (fun _ i _ => 64 - (intOf i).toNat)
      case atStart => exact ⟨16, by omega, by omega, rfl, how, hB⟩
      case round =>
        clear how hB
        obtain ⟨k, hk0, hk, rfl, how, hB⟩ := hrel
        obtain ⟨g, cap, rfl, hgb, hgs, hgc, hcell⟩ := wrow_at how (by omega)
        by_cases hk64 : k < 64
        · obtain ⟨m15, h15⟩ : ∃ m : Nat, m = k - 15 := ⟨_, rfl⟩
          obtain ⟨m2, h2⟩ : ∃ m : Nat, m = k - 2 := ⟨_, rfl⟩
          obtain ⟨m16, h16⟩ : ∃ m : Nat, m = k - 16 := ⟨_, rfl⟩
          obtain ⟨m7, h7⟩ : ∃ m : Nat, m = k - 7 := ⟨_, rfl⟩
          have HW := Wat_hi bs k hk0 hk64
          rw [← h15, ← h2, ← h16, ← h7] at HW
          have c15 := hcell m15 (by omega)
          have c2 := hcell m2 (by omega)
          have c16 := hcell m16 (by omega)
          have c7 := hcell m7 (by omega)
          have w15 : IntKind.i64.wrap ((k : Int) - 15) = (m15 : Int) := by rw [IntKind.wrap_i64]; omega
          have w2 : IntKind.i64.wrap ((k : Int) - 2) = (m2 : Int) := by rw [IntKind.wrap_i64]; omega
          have w16 : IntKind.i64.wrap ((k : Int) - 16) = (m16 : Int) := by rw [IntKind.wrap_i64]; omega
          have w7 : IntKind.i64.wrap ((k : Int) - 7) = (m7 : Int) := by rw [IntKind.wrap_i64]; omega
          have v15 : (k : Int) - 15 = (m15 : Int) := by omega
          have v2 : (k : Int) - 2 = (m2 : Int) := by omega
          have v16 : (k : Int) - 16 = (m16 : Int) := by omega
          have v7 : (k : Int) - 7 = (m7 : Int) := by omega
          have l15 : (m15 : Int) < k := by omega
          have l2 : (m2 : Int) < k := by omega
          have l16 : (m16 : Int) < k := by omega
          have l7 : (m7 : Int) < k := by omega
          have n15 : m15 < k := by omega
          have n16 : m16 < k := by omega
          have n7 : m7 < k := by omega
          have HK : Hid (16 ≤ k ∧ k < 64) := ⟨hk0, hk64⟩
          have i1 : (k : Int) < 64 := by omega
          have hr16 := wrow_get bs k m16 n16
          have hr7 := wrow_get bs k m7 n7
          generalize Wat bs m15 = x at *
          generalize Wat bs m2 = y at *
          generalize Wat bs m16 = p at *
          generalize Wat bs m7 = q at *
          have HW' : Hid (Wat bs k = p + s0 x + q + s1 y) := HW
          have t7 : ∀ W, Calls Tryd.prog 56 #[.int .u32 (wv x), .int .i64 7] W fun e w' => e = .returned (.int .u32 (wv (x.rotateRight 7))) ∧ w' = W := fun W => refturned_any x 7 (by decide) W
          have t18 : ∀ W, Calls Tryd.prog 56 #[.int .u32 (wv x), .int .i64 18] W fun e w' => e = .returned (.int .u32 (wv (x.rotateRight 18))) ∧ w' = W := fun W => refturned_any x 18 (by decide) W
          have t17 : ∀ W, Calls Tryd.prog 56 #[.int .u32 (wv y), .int .i64 17] W fun e w' => e = .returned (.int .u32 (wv (y.rotateRight 17))) ∧ w' = W := fun W => refturned_any y 17 (by decide) W
          have t19 : ∀ W, Calls Tryd.prog 56 #[.int .u32 (wv y), .int .i64 19] W fun e w' => e = .returned (.int .u32 (wv (y.rotateRight 19))) ∧ w' = W := fun W => refturned_any y 19 (by decide) W
          have d8 : (wv x).tdiv 8 % (4294967296 : Int) = wv (x >>> 3) := tdiv_shr x 3 8 rfl
          have d1024 : (wv y).tdiv 1024 % (4294967296 : Int) = wv (y >>> 10) := tdiv_shr y 10 1024 rfl
          obtain ⟨A, hA⟩ : ∃ A, s0 x = A := ⟨_, rfl⟩
          obtain ⟨B, hB'⟩ : ∃ B, s1 y = B := ⟨_, rfl⟩
          rw [hA, hB'] at HW'
          have hA' : BitVec.rotateRight x 7 ^^^ BitVec.rotateRight x 18 ^^^ x >>> 3 = A := hA
          have hB'' : BitVec.rotateRight y 17 ^^^ BitVec.rotateRight y 19 ^^^ y >>> 10 = B := hB'
          clear hA hB'
          have a1 := wr_add p A
          have a2 := wr_add (p + A) q
          have a3 := wr_add (p + A + q) B
          generalize p + A + q + B = T at *
          generalize p + A + q = T2 at *
          generalize p + A = T1 at *
          clear HW h15 h2 h16 h7 hk hk64 hk0 hcell h0 h1 hg0 hg1
          go_wp2_with fail
          go_quiet (fail)
          go_wp2_with fail
          refine (t7 _).mono ?_
          rintro e w' ⟨rfl, hw⟩; obtain rfl := hw.symm; clear hw
          go_wp2_with fail
          refine (t18 _).mono ?_
          rintro e w' ⟨rfl, hw⟩; obtain rfl := hw.symm; clear hw
          go_wp2_with fail
          refine (t17 _).mono ?_
          rintro e w' ⟨rfl, hw⟩; obtain rfl := hw.symm; clear hw
          go_wp2_with fail
          refine (t19 _).mono ?_
          rintro e w' ⟨rfl, hw⟩; obtain rfl := hw.symm; clear hw
          go_wp2_with fail
          clear v16 v7 t7 t18 t17 t19 d8 d1024 hA' hB'' c15 c2 w15 w2 v15 v2 l15 l2
          have how' : (wr.drewN nq).ownsRow w.heap.size 87 1 (.slice (some ⟨g, 0, none⟩) k cap) k (wrow bs k) := how
          have hBX : Below w.heap.size w (wr.drewN nq) := ⟨hB.os, hB.tape, hB.output, hB.size, hB.block⟩
          have c16' : (wr.drewN nq).cell? ⟨g, m16, none⟩ = some (.int .u32 (wv p)) := c16
          have c7' : (wr.drewN nq).cell? ⟨g, m7, none⟩ = some (.int .u32 (wv q)) := c7
          have hgX : g < (wr.drewN nq).heap.size := hgs
          have hsX : w.heap.size ≤ (wr.drewN nq).heap.size := hB.size
          clear how hB c16 c7 hgs
          generalize wr.drewN nq = X at *
          obtain ⟨i0, hi, hz0, hz1, hz2⟩ := info_parts info65
          have hal : ∀ (ob : Obj) (a : Addr), a.block < X.heap.size → ((X.alloc ob).drew).cell? a = X.cell? a := fun ob a ha => by
            refine World.cell?_of_block (w := X) ?_
            show (X.alloc ob).heap[a.block]? = _
            rw [alloc_get, if_neg (by omega)]
          have hn1 := has_new X #[.int .u32 (wv T)] 87 X.heap.size rfl
          have HK63 : Hid (k + 1 ≤ maxLen ∧ (k + 1) * 4 ≤ 140737488355328) := ⟨by have := HK.out.2; simp only [maxLen]; omega, by have := HK.out.2; omega⟩
          go_region_held3 (fun W => W.cell? ⟨g, m16, none⟩ = some (.int .u32 (wv p)) ∧ W.cell? ⟨g, m7, none⟩ = some (.int .u32 (wv q))) (first | exact ⟨c16', c7'⟩ | exact ⟨(hal _ _ hgX).trans c16', (hal _ _ hgX).trans c7'⟩ | exact ⟨hkp g rfl _ _ hr16, hkp g rfl _ _ hr7⟩) ((refine step_append_own2 rfl _ _ 84 rfl w.heap.size 87 i0 (.int .u32 0) 1 4 Tryd.underlying84 hi hz0 hz1 hz2 rfl (by omega) _ k _ rfl (how'.alloc _) ⟨X.heap.size, 0, none⟩ 1 1 [w32 T] rfl rfl (fun j u hu => by rw [Addr.add_mid, Nat.zero_add]; refine (hn1.cell j).trans ?_; rw [← hu]; simp [w32]) (fun u hu => by simp at hu; subst hu; rfl) HK63.out.1 HK63.out.2 (by simp; omega) ?_; intro v' w2 hown2 hgr hkp))
          go_wp2_with fail
          go_roundw
          case rel => exact ⟨k + 1, by have := HK.out; omega, by have := HK.out; omega, by go_num, by rw [wrow_next, HW'.out]; exact hown2, grown_below hBX hgr ⟨_, rfl⟩ (fun k hk => by cases hk; exact hgb)⟩
          case measure => have := HK.out; simp [intOf]; omega
        · obtain rfl : k = 64 := by omega
          rw [show (((64 : Nat) : Int)) = 64 from rfl]
          clear hk hk0 hk64
          obtain ⟨i0, hi, hz0, hz1, hz2⟩ := info_parts info65
          have hsw : Hid (w.heap.size ≤ wr.heap.size) := hB.size
          have hn8 : ∀ j u, (srow s)[j]? = some u → wr.cell? ⟨g0, j, none⟩ = some u := fun j u hu => by
            rw [World.cell?_of_block (w := w) (hB.block g0 hg0)]
            have hj : j < 8 := by have := (List.getElem?_eq_some_iff.1 hu).1; simpa [srow] using this
            rw [h0 j hj, ← hu, srow_get s j hj]; rfl
          have hg0r : g0 < wr.heap.size := Nat.lt_of_lt_of_le hg0 hB.size
          have hal0 : ∀ j u, (srow s)[j]? = some u → (wr.alloc (.cells #[] 87)).cell? ((⟨g0, 0, none⟩ : Addr).add j) = some u := fun j u hu => by
            rw [Addr.add_mid, Nat.zero_add, World.cell?_of_block (w := wr) (show (wr.alloc (.cells #[] 87)).heap[g0]? = wr.heap[g0]? by rw [alloc_get, if_neg (by omega)])]
            exact hn8 j u hu
          go_wp2_with (refine wpList_append_own _ rfl _ _ 84 rfl w.heap.size 87 i0 (.int .u32 0) 1 4 Tryd.underlying84 hi hz0 hz1 hz2 rfl (by omega) _ 0 [] rfl (World.ownsRow_made wr #[] 0 hsw.out (by simp only [maxLen]; omega) rfl) ⟨g0, 0, none⟩ 8 c0 (srow s) rfl (by simp [srow]) hal0 (fun u hu => by obtain ⟨j, _, rfl⟩ := List.mem_map.1 hu; rfl) (by simp only [maxLen]; omega) (by omega) (by have := hsw.out; simp; omega) ?_; intro v' w2 hown2 hgr hnil; clear hnil)
          have hB2 : Below w.heap.size w w2 := below_grown hB hgr (fun k hk => by cases hk; exact hsw.out)
          have hc2 : Hid (∀ j, j < 64 → w2.cell? ⟨g, j, none⟩ = some (.int .u32 (wv (Wat bs j)))) := fun j hj => by
            rw [World.cell?_of_block (w := wr) (by rw [hgr.block g (by simp; omega) (fun e => by have := Option.some.inj e; simp at this; omega), alloc_get, if_neg (by omega)])]; exact hcell j hj
          have hg2 : Hid (g < w2.heap.size) := by show _ < _; have := hgr.size; simp at this; omega
          have hs2 : Hid (w.heap.size ≤ w2.heap.size) := hB2.size
          clear hn8 hgr hcell how hB hsw hgs hg0r
          rw [Nat.zero_add, List.nil_append] at hown2
          go_loopw [14, 15] (fun v i wr => ∃ k : Nat, k ≤ 64 ∧ i = .int .i64 k ∧ wr.ownsRow w.heap.size 87 1 v 8 (srow (rnds s bs k)) ∧ Below w2.heap.size w2 wr) (fun _ i _ => 64 - (intOf i).toNat)
          case atStart => exact ⟨0, by omega, rfl, hown2, Below.refl _ _⟩
          case round =>
            clear hown2
            obtain ⟨k, hk, rfl, how, hBr⟩ := hrel
            obtain ⟨gs, cs, rfl, hgs0, hgs1, hcs, hcel⟩ := srow_at how
            by_cases hk64 : k < 64
            · have HK : Hid (k < 64) := hk64
              have i1 : (k : Int) < 64 := by omega
              have ck : wr.cell? ⟨g1, k, none⟩ = some (.int .u32 (wv (cubeW k))) := by
                rw [World.cell?_of_block (w := w2) (hBr.block g1 (Nat.lt_of_lt_of_le hg1 hs2.out)), World.cell?_of_block (w := w) (hB2.block g1 hg1)]; exact h1 k hk64
              have cw : wr.cell? ⟨g, k, none⟩ = some (.int .u32 (wv (Wat bs k))) := by
                rw [World.cell?_of_block (w := w2) (hBr.block g hg2.out)]; exact hc2.out k hk64
              have Hst : Hid (rnds s bs (k + 1) = rnd (rnds s bs k) (cubeW k) (Wat bs k)) := rfl
              generalize rnds s bs k = r at *
              generalize cubeW k = C at *
              generalize Wat bs k = Wk at *
              obtain ⟨a, b, c, d, e, f, gg, h⟩ := r
              have f0 : wr.cell? ⟨gs, 0, none⟩ = some (.int .u32 (wv a)) := hcel 0 (by omega)
              have f1 : wr.cell? ⟨gs, 1, none⟩ = some (.int .u32 (wv b)) := hcel 1 (by omega)
              have f2 : wr.cell? ⟨gs, 2, none⟩ = some (.int .u32 (wv c)) := hcel 2 (by omega)
              have f3 : wr.cell? ⟨gs, 3, none⟩ = some (.int .u32 (wv d)) := hcel 3 (by omega)
              have f4 : wr.cell? ⟨gs, 4, none⟩ = some (.int .u32 (wv e)) := hcel 4 (by omega)
              have f5 : wr.cell? ⟨gs, 5, none⟩ = some (.int .u32 (wv f)) := hcel 5 (by omega)
              have f6 : wr.cell? ⟨gs, 6, none⟩ = some (.int .u32 (wv gg)) := hcel 6 (by omega)
              have f7 : wr.cell? ⟨gs, 7, none⟩ = some (.int .u32 (wv h)) := hcel 7 (by omega)
              obtain ⟨ne, hne⟩ : ∃ x, ~~~e = x := ⟨_, rfl⟩
              have nE := wr_neg e
              have nE' := wm_neg e
              rw [hne] at nE nE'
              obtain ⟨S, hS⟩ : ∃ x, BitVec.rotateRight e 6 ^^^ BitVec.rotateRight e 11 ^^^ BitVec.rotateRight e 25 = x := ⟨_, rfl⟩
              obtain ⟨A1, hA1⟩ : ∃ x, e &&& f = x := ⟨_, rfl⟩
              obtain ⟨A2, hA2⟩ : ∃ x, ne &&& gg = x := ⟨_, rfl⟩
              obtain ⟨CH, hCH⟩ : ∃ x, A1 ^^^ A2 = x := ⟨_, rfl⟩
              obtain ⟨S', hS'⟩ : ∃ x, BitVec.rotateRight a 2 ^^^ BitVec.rotateRight a 13 ^^^ BitVec.rotateRight a 22 = x := ⟨_, rfl⟩
              obtain ⟨B1, hB1⟩ : ∃ x, a &&& b = x := ⟨_, rfl⟩
              obtain ⟨B2, hB2'⟩ : ∃ x, a &&& c = x := ⟨_, rfl⟩
              obtain ⟨B3, hB3⟩ : ∃ x, b &&& c = x := ⟨_, rfl⟩
              obtain ⟨MJ, hMJ⟩ : ∃ x, B1 ^^^ B2 ^^^ B3 = x := ⟨_, rfl⟩
              have p1 := wr_add h S
              have p2 := wr_add (h + S) CH
              have p3 := wr_add (h + S + CH) C
              have p4 := wr_add (h + S + CH + C) Wk
              have q1 := wr_add S' MJ
              have q2 := wr_add (h + S + CH + C + Wk) (S' + MJ)
              have q3 := wr_add d (h + S + CH + C + Wk)
              have Hend : Hid (rnds s bs (k + 1) = ⟨h + S + CH + C + Wk + (S' + MJ), a, b, c, d + (h + S + CH + C + Wk), e, f, gg⟩) := by
                show _ = _
                rw [Hst.out, ← hMJ, ← hB1, ← hB2', ← hB3, ← hS', ← hCH, ← hA1, ← hA2, ← hne, ← hS]; rfl
              clear Hst hne
              generalize d + (h + S + CH + C + Wk) = DT at *
              generalize h + S + CH + C + Wk + (S' + MJ) = TU at *
              generalize h + S + CH + C + Wk = T at *
              generalize h + S + CH + C = T3 at *
              generalize h + S + CH = T2 at *
              generalize h + S = T1 at *
              generalize S' + MJ = U at *
              clear hcel h0 h1 hg0 hg1 hB2 hc2
              go_wp2_with fail
              go_quiet ((go_at_call 56; exact Calls.quiet_of_same (refturned_int _ _ (by decide) (by decide) _)))
              have y0 : (wr.drewN nq).cell? ⟨gs, 0, none⟩ = some (.int .u32 (wv a)) := f0
              have y1 : (wr.drewN nq).cell? ⟨gs, 1, none⟩ = some (.int .u32 (wv b)) := f1
              have y2 : (wr.drewN nq).cell? ⟨gs, 2, none⟩ = some (.int .u32 (wv c)) := f2
              have y3 : (wr.drewN nq).cell? ⟨gs, 3, none⟩ = some (.int .u32 (wv d)) := f3
              have y4 : (wr.drewN nq).cell? ⟨gs, 4, none⟩ = some (.int .u32 (wv e)) := f4
              have y5 : (wr.drewN nq).cell? ⟨gs, 5, none⟩ = some (.int .u32 (wv f)) := f5
              have y6 : (wr.drewN nq).cell? ⟨gs, 6, none⟩ = some (.int .u32 (wv gg)) := f6
              have y7 : (wr.drewN nq).cell? ⟨gs, 7, none⟩ = some (.int .u32 (wv h)) := f7
              have hBX : Below w2.heap.size w2 (wr.drewN nq) := ⟨hBr.os, hBr.tape, hBr.output, hBr.size, hBr.block⟩
              have hgX : gs < (wr.drewN nq).heap.size := hgs1
              clear f0 f1 f2 f3 f4 f5 f6 f7 hBr hgs1 how ck cw
              generalize wr.drewN nq = X at *
              go_wp2_with fail
              go_quiet ((go_at_call 56; exact Calls.quiet_of_same (refturned_int _ _ (by decide) (by decide) _)))
              clear nE nE' hS hA1 hA2 hCH hS' hB1 hB2' hB3 hMJ p1 p2 p3 p4 q1
              have z0 : (X.drewN nq).cell? ⟨gs, 0, none⟩ = some (.int .u32 (wv a)) := y0
              have z1 : (X.drewN nq).cell? ⟨gs, 1, none⟩ = some (.int .u32 (wv b)) := y1
              have z2 : (X.drewN nq).cell? ⟨gs, 2, none⟩ = some (.int .u32 (wv c)) := y2
              have z3 : (X.drewN nq).cell? ⟨gs, 3, none⟩ = some (.int .u32 (wv d)) := y3
              have z4 : (X.drewN nq).cell? ⟨gs, 4, none⟩ = some (.int .u32 (wv e)) := y4
              have z5 : (X.drewN nq).cell? ⟨gs, 5, none⟩ = some (.int .u32 (wv f)) := y5
              have z6 : (X.drewN nq).cell? ⟨gs, 6, none⟩ = some (.int .u32 (wv gg)) := y6
              have z7 : (X.drewN nq).cell? ⟨gs, 7, none⟩ = some (.int .u32 (wv h)) := y7
              have hBY : Below w2.heap.size w2 (X.drewN nq) := ⟨hBX.os, hBX.tape, hBX.output, hBX.size, hBX.block⟩
              have hgY : gs < (X.drewN nq).heap.size := hgX
              clear y0 y1 y2 y3 y4 y5 y6 y7 hBX hgX
              generalize X.drewN nq = Y at *
              have hal : ∀ (ob : Obj) (a : Addr), a.block < Y.heap.size → ((Y.alloc ob).drew).cell? a = Y.cell? a := fun ob a ha => by
                refine World.cell?_of_block (w := Y) ?_
                show (Y.alloc ob).heap[a.block]? = _
                rw [alloc_get, if_neg (by omega)]
              go_wp2_with fail
              go_region_held3 (fun W => W.cell? ⟨gs, 0, none⟩ = some (.int .u32 (wv a)) ∧ W.cell? ⟨gs, 1, none⟩ = some (.int .u32 (wv b)) ∧ W.cell? ⟨gs, 2, none⟩ = some (.int .u32 (wv c)) ∧ W.cell? ⟨gs, 3, none⟩ = some (.int .u32 (wv d)) ∧ W.cell? ⟨gs, 4, none⟩ = some (.int .u32 (wv e)) ∧ W.cell? ⟨gs, 5, none⟩ = some (.int .u32 (wv f)) ∧ W.cell? ⟨gs, 6, none⟩ = some (.int .u32 (wv gg))) (first | exact ⟨z0, z1, z2, z3, z4, z5, z6⟩ | exact ⟨(hal _ _ hgY).trans z0, (hal _ _ hgY).trans z1, (hal _ _ hgY).trans z2, (hal _ _ hgY).trans z3, (hal _ _ hgY).trans z4, (hal _ _ hgY).trans z5, (hal _ _ hgY).trans z6⟩) (fail)
              go_wp2_with fail
              go_roundw
              case rel => exact ⟨k + 1, by have := HK.out; omega, by go_num, by rw [Hend.out]; exact ⟨rfl, .inr ⟨Y.heap.size, 8, _, rfl, (by have := hBY.size; have := hs2.out; omega), heap_alloc_new Y _, by omega, by simp only [maxLen]; omega, rfl, rfl⟩⟩, (by have hb := hBY.alloc hBY.size (Obj.cells #[Value.int IntKind.u32 (wv TU), Value.int IntKind.u32 (wv a), Value.int IntKind.u32 (wv b), Value.int IntKind.u32 (wv c), Value.int IntKind.u32 (wv DT), Value.int IntKind.u32 (wv e), Value.int IntKind.u32 (wv f), Value.int IntKind.u32 (wv gg)] 87); exact ⟨hb.os, hb.tape, hb.output, hb.size, hb.block⟩)⟩
              case measure => have := HK.out; simp [intOf]; omega
            · obtain rfl : k = 64 := by omega
              rw [show (((64 : Nat) : Int)) = 64 from rfl]
              have hBw : Below w.heap.size w wr := hB2.trans (hBr.mono hs2.out)
              have Hc : Hid (srow (comp s bs) = mrow s (rnds s bs 64) 8) := comp_mrow s bs
              have how0 := how
              rw [← mrow_zero s] at how0
              clear how hcel hk hk64 hBr hB2 hc2 hg2 hs2 h1 hg1 hal0
              generalize rnds s bs 64 = r at *
              have hg0w : Hid (g0 < wr.heap.size) := Nat.lt_of_lt_of_le hg0 hBw.size
              have h0w : Hid (∀ j, j < 8 → wr.cell? ⟨g0, j, none⟩ = some (.int .u32 (wv (s.get j)))) := fun j hj => by
                rw [World.cell?_of_block (w := w) (hBw.block g0 hg0)]; exact h0 j hj
              have hne : Hid (g0 ≠ gs) := by show _ ≠ _; omega
              clear h0
              generalize wr = W4 at *
              go_wp2_with fail
              go_loopw [18] (fun i wr => ∃ k : Nat, k ≤ 8 ∧ i = .int .i64 k ∧ wr.ownsRow w.heap.size 87 1 (.slice (some ⟨gs, 0, none⟩) 8 cs) 8 (mrow s r k) ∧ Ex gs W4 wr) (fun i _ => 8 - (intOf i).toNat)
              case atStart => exact ⟨0, by omega, rfl, how0, Ex.refl _ _⟩
              case round =>
                clear how0
                obtain ⟨k, hk, rfl, how, hE⟩ := hrel
                by_cases hk8 : k < 8
                · have i1 : (k : Int) < 8 := by omega
                  have d1 : wr.cell? ⟨gs, k, none⟩ = some (.int .u32 (wv (r.get k))) := by
                    have := how.cells (g := gs) rfl k _ (mrow_get s r k k hk8)
                    rw [Addr.add_mid, Nat.zero_add, if_neg (by omega)] at this
                    exact this
                  have d2 : wr.cell? ⟨g0, k, none⟩ = some (.int .u32 (wv (s.get k))) := by
                    rw [World.cell?_of_block (w := W4) (hE.block g0 hg0w.out hne.out)]; exact h0w.out k hk8
                  have d3 := ownsRow_free how k
                  have p1 := wr_add (r.get k) (s.get k)
                  have Hm : Hid (mrow s r (k + 1) = (mrow s r k).set k (w32 (r.get k + s.get k))) := mrow_next s r k hk8
                  have HK : Hid (k < 8) := hk8
                  have hset := ownsRow_set how k (w32 (r.get k + s.get k))
                  rw [← Hm.out] at hset
                  generalize r.get k = rk at *
                  generalize s.get k = sk at *
                  generalize rk + sk = tk at *
                  go_wp2_with fail
                  go_region
                  all_goals
                    go_wp2
                    go_roundw
                    case rel => exact ⟨k + 1, by have := HK.out; omega, by go_num, hset, (hE.trans (Ex.drewN _ _ 1)).trans (Ex.set _ _ _ _)⟩
                    case measure => simp [intOf]; omega
                · obtain rfl : k = 8 := by omega
                  rw [← Hc.out] at how
                  have hBe : Below w.heap.size w wr := Ex.to_below hBw hBw.size hE hgs0
                  clear Hc hE
                  go_wp2_with fail
                  go_ret
                  exact ⟨_, rfl, how, hBe⟩
end Go.Proofs.YtcmkjgodgocdfaaDoor
