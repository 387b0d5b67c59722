/- (*state).take: the state behind a block. -/
import Derived.Test.YtcmkjgodgocdfaaDoorA3
namespace Go.Proofs.YtcmkjgodgocdfaaDoor
open Go.RowKit
attribute [local go_sem] wr_add wm_add wm_shl wm_shr wm_and wm_xor wm_or wv_nonneg bm_zx bm_lo wm_shl8 wm_shr8 wm_not wr_not wi_not

theorem run_index64 (cs : Array Value) (k : Nat) (v : Value) (hk : k < 64) (hv : cs[k]? = some v) (w : World) :
    (Instr.index 112 (.agg cs) (.int .i64 (k : Int))).run Tryd.prog w = .ok v w := by
  simp [Instr.index, go_sem, hv]
  omega

/-- What the program's text lays: the square words and the cube words. -/
structure Glob (w : World) : Prop where
  sq : ∀ j, j < 8 → w.cell? ⟨0, j, none⟩ = some (.int .u32 (wv (squareW j)))
  cu : ∀ j, j < 64 → w.cell? ⟨1, j, none⟩ = some (.int .u32 (wv (cubeW j)))
  size : 2 ≤ w.heap.size
theorem Glob.ex {b : Nat} {w w' : World} (h : Glob w) (k : Ex b w w') (hb : 2 ≤ b) : Glob w' :=
  ⟨fun j hj => (World.cell?_of_block (w := w) (k.block 0 (by have := h.size; omega) (by omega))).trans (h.sq j hj),
   fun j hj => (World.cell?_of_block (w := w) (k.block 1 (by have := h.size; omega) (by omega))).trans (h.cu j hj), Nat.le_trans h.size k.size⟩
theorem Glob.below {B : Nat} {w w' : World} (h : Glob w) (k : Below B w w') (hb : 2 ≤ B) : Glob w' :=
  ⟨fun j hj => (k.cell (p := ⟨0, j, none⟩) (by simp; omega)).trans (h.sq j hj), fun j hj => (k.cell (p := ⟨1, j, none⟩) (by simp; omega)).trans (h.cu j hj), Nat.le_trans h.size k.size⟩

/-- The words of a state in the first eight cells of a block. -/
def StAt (cs : Array Value) (s : St) : Prop := ∀ j, j < 8 → cs[j]? = some (.int .u32 (wv (s.get j)))

set_option maxRecDepth 100000 in
set_option maxHeartbeats 2000000 in
theorem take_any (s : St) (bs : List UInt8) (hb : bs.length = 64) (b t : Nat) (cs : Array Value) (w : World) (hh : Has w b cs t) (hs : StAt cs s) (hg : Glob w) :
    Calls Tryd.prog 59 #[.pointer (some ⟨b, 0, none⟩), .agg (byteCells bs)] w fun e w' => e = .returned (.tuple #[]) ∧ Ex b w w' ∧
      ∃ cs', Has w' b cs' t ∧ Upd cs cs' 0 8 (fun j => .int .u32 (wv ((comp s bs).get j))) := by
  have hlt := hh.lt
  go_enter Tryd.func59, Tryd.ntmps59
  go_wp2_with (go_at_call 67; refine (turned_any _ _ _ _).mono ?_; rintro e w' ⟨rfl, rfl⟩)
  refine named (p := Code.wp _ _ _ _) ?_
  intro W0 hW0
  have hB : Below w.heap.size w W0 := by
    rw [hW0]
    repeat (first | exact Below.refl _ _ | refine Below.alloc ?_ (by simp <;> omega) _)
  have hz : Hid (W0.heap.size = w.heap.size + 7) := by show _ = _; rw [hW0]; simp
  have hby : Has W0 w.heap.size (byteCells bs) 99 := by
    rw [hW0]; repeat (first | (refine has_new _ _ _ _ ?_; simp; done) | refine has_old ?_)
  have cl : ∀ i v, Has W0 (w.heap.size + i) #[v] 3 → W0.cell? ⟨w.heap.size + i, 0, none⟩ = some v := fun i v h => h.one
  have k2 := cl 1 (.int .i64 2) (by rw [hW0]; repeat (first | (refine has_new _ _ _ _ ?_; simp; done) | refine has_old ?_))
  have k13 := cl 2 (.int .i64 13) (by rw [hW0]; repeat (first | (refine has_new _ _ _ _ ?_; simp; done) | refine has_old ?_))
  have k22 := cl 3 (.int .i64 22) (by rw [hW0]; repeat (first | (refine has_new _ _ _ _ ?_; simp; done) | refine has_old ?_))
  have k6 := cl 4 (.int .i64 6) (by rw [hW0]; repeat (first | (refine has_new _ _ _ _ ?_; simp; done) | refine has_old ?_))
  have k11 := cl 5 (.int .i64 11) (by rw [hW0]; repeat (first | (refine has_new _ _ _ _ ?_; simp; done) | refine has_old ?_))
  have k25 := cl 6 (.int .i64 25) (by rw [hW0]; repeat (first | (refine has_new _ _ _ _ ?_; simp; done) | refine has_old ?_))
  clear hW0 cl
  simp only [Nat.add_assoc, Nat.reduceAdd]
  have hh0 := hh.below hB hlt
  have f0 : W0.cell? ⟨b, 0, none⟩ = some (.int .u32 (wv s.a)) := (hh0.cell 0).trans (hs 0 (by omega))
  have f1 : W0.cell? ⟨b, 1, none⟩ = some (.int .u32 (wv s.b)) := (hh0.cell 1).trans (hs 1 (by omega))
  have f2 : W0.cell? ⟨b, 2, none⟩ = some (.int .u32 (wv s.c)) := (hh0.cell 2).trans (hs 2 (by omega))
  have f3 : W0.cell? ⟨b, 3, none⟩ = some (.int .u32 (wv s.d)) := (hh0.cell 3).trans (hs 3 (by omega))
  have f4 : W0.cell? ⟨b, 4, none⟩ = some (.int .u32 (wv s.e)) := (hh0.cell 4).trans (hs 4 (by omega))
  have f5 : W0.cell? ⟨b, 5, none⟩ = some (.int .u32 (wv s.f)) := (hh0.cell 5).trans (hs 5 (by omega))
  have f6 : W0.cell? ⟨b, 6, none⟩ = some (.int .u32 (wv s.g)) := (hh0.cell 6).trans (hs 6 (by omega))
  have f7 : W0.cell? ⟨b, 7, none⟩ = some (.int .u32 (wv s.h)) := (hh0.cell 7).trans (hs 7 (by omega))
  go_quiet (fail)
  clear f0 f1 f2 f3 f4 f5 f6 f7
  go_wp2_with (first
    | refine wpList_load_row rfl 99 _ rfl w.heap.size rfl 99 (byteCells bs) (0, 0) _ hby Tryd.underlying99 rfl (by rw [byteCells_size, hb]; kernel_rfl) ?_
    | (go_at_call 68; refine (spread_any bs hb _).mono ?_; rintro e W1 ⟨ws, rfl, hws, hwat, hB1⟩))
  have hz0 := hz.out
  have hBb : Below W0.heap.size W0 W1 := ⟨hB1.os, hB1.tape, hB1.output, hB1.size, hB1.block⟩
  have g2 := (hBb.cell (p := ⟨w.heap.size + 1, 0, none⟩) (by simp; omega)).trans k2
  have g13 := (hBb.cell (p := ⟨w.heap.size + 2, 0, none⟩) (by simp; omega)).trans k13
  have g22 := (hBb.cell (p := ⟨w.heap.size + 3, 0, none⟩) (by simp; omega)).trans k22
  have g6 := (hBb.cell (p := ⟨w.heap.size + 4, 0, none⟩) (by simp; omega)).trans k6
  have g11 := (hBb.cell (p := ⟨w.heap.size + 5, 0, none⟩) (by simp; omega)).trans k11
  have g25 := (hBb.cell (p := ⟨w.heap.size + 6, 0, none⟩) (by simp; omega)).trans k25
  have hB2 : Below w.heap.size w W1 := hB.trans (hBb.mono (by omega))
  have hh1 := hh.below hB2 hlt
  have hG1 := hg.below hB2 hg.size
  clear k2 k13 k22 k6 k11 k25 hh0 hby hB1 hz0
  go_loopw [6, 7, 8, 9, 10, 11, 12, 13, 56] (fun a b' c d e f g h i wr => ∃ k : Nat, k ≤ 64 ∧ i = .int .i64 k ∧ Hid (∃ n, wr = W1.drewN n) ∧ a = .int .u32 (wv (rnds s bs k).a) ∧ b' = .int .u32 (wv (rnds s bs k).b) ∧ c = .int .u32 (wv (rnds s bs k).c) ∧ d = .int .u32 (wv (rnds s bs k).d)
     ∧ e = .int .u32 (wv (rnds s bs k).e) ∧ f = .int .u32 (wv (rnds s bs k).f) ∧ g = .int .u32 (wv (rnds s bs k).g) ∧ h = .int .u32 (wv (rnds s bs k).h)) (fun _ _ _ _ _ _ _ _ i _ => 64 - (intOf i).toNat)
  case atStart => exact ⟨0, by omega, rfl, ⟨0, rfl⟩, rfl, rfl, rfl, rfl, rfl, rfl, rfl, rfl⟩
  case round =>
    obtain ⟨k, hk, rfl, hn, rfl, rfl, rfl, rfl, rfl, rfl, rfl, rfl⟩ := hrel
    by_cases hk64 : k < 64
    · have hidx := run_index64 ws k _ hk64 (hwat k hk64)
      unfold wordAt at hidx
      have cw : ∀ a, wr.cell? a = W1.cell? a := fun a => by obtain ⟨n, e⟩ := hn.out; rw [e]; rfl
      have hcu := (cw _).trans (hG1.cu k hk64)
      have q2 := (cw _).trans g2
      have q13 := (cw _).trans g13
      have q22 := (cw _).trans g22
      have q6 := (cw _).trans g6
      have q11 := (cw _).trans g11
      have q25 := (cw _).trans g25
      clear cw
      have i1 : (k : Int) < 64 := by omega
      generalize hr : rnds s bs k = r
      have Hr : Hid (rnds s bs k = r) := hr
      clear hr
      go_wp2_with fail
      go_quiet ((go_at_call 72; exact Calls.quiet_of (turned1_any r.e _ _ _ 6 11 25 _ (by decide) (by decide) (by decide) (by decide) (by decide) (by decide) q6 q11 q25)))
      go_wp2_with (go_at_call 72; refine (turned1_any r.a _ _ _ 2 13 22 _ (by decide) (by decide) (by decide) (by decide) (by decide) (by decide) (by exact q2) (by exact q13) (by exact q22)).mono ?_; rintro e w' ⟨rfl, n2, rfl⟩)
      have hst : rnds s bs (k + 1) = rnd r (cubeW k) (Wat bs k) := by show rnd (rnds s bs k) _ _ = _; rw [Hr.out]
      go_roundw
      case rel =>
        refine ⟨k + 1, by omega, by go_num, (by obtain ⟨n, e⟩ := hn.out; rw [e]; exact ⟨_, by rw [World.drewN_drewN]⟩), ?_⟩
        rw [hst]
        exact ⟨rfl, rfl, rfl, rfl, rfl, rfl, rfl, rfl⟩
      case measure => simp [intOf]; omega
    · have e64 : k = 64 := by omega
      subst e64
      have hw : ∀ m : Nat, wr.heap[m]? = W1.heap[m]? := fun m => by obtain ⟨n, e⟩ := hn.out; rw [e]; rfl
      have hz : Hid (wr.heap.size = W1.heap.size) := by obtain ⟨n, e⟩ := hn.out; show _ = _; rw [e]; rfl
      have hBr : Below w.heap.size w wr := by obtain ⟨n, e⟩ := hn.out; rw [e]; exact ⟨hB2.os, hB2.tape, hB2.output, hB2.size, hB2.block⟩
      have hhr : Has wr b cs t := (hw b).trans hh1
      clear hw g2 g13 g22 g6 g11 g25 hG1 hh1 hn
      generalize hr : rnds s bs 64 = r
      have Hr : Hid (rnds s bs 64 = r) := hr
      clear hr
      go_wp2_with fail
      refine named (p := Code.wp _ _ _ _) ?_
      intro W2 hW2
      have hM : Has W2 wr.heap.size #[.int .u32 (wv r.a), .int .u32 (wv r.b), .int .u32 (wv r.c), .int .u32 (wv r.d), .int .u32 (wv r.e), .int .u32 (wv r.f), .int .u32 (wv r.g), .int .u32 (wv r.h)] 98 := by
        rw [hW2]; exact has_new _ _ _ _ rfl
      have hmx : ∀ j, j < 8 → W2.cell? ⟨wr.heap.size, j, none⟩ = some (.int .u32 (wv (r.get j))) := fun j hj => by
        rw [hM.cell]
        match j, hj with
        | 0, _ | 1, _ | 2, _ | 3, _ | 4, _ | 5, _ | 6, _ | 7, _ => rfl
      have hb2' : Has W2 b cs t := by rw [hW2]; exact has_old hhr
      have hB2' : Below w.heap.size w W2 := by rw [hW2]; exact hBr.alloc hBr.size _
      have hbm : b < wr.heap.size := hhr.lt
      have hms : wr.heap.size < W2.heap.size := hM.lt
      clear hW2 hM
      generalize wr.heap.size = M at *
      go_loopw [117] (fun i wr => ∃ k : Nat, k ≤ 8 ∧ i = .int .i64 k ∧ Ex b W2 wr ∧ ∃ cs', Has wr b cs' t ∧ Upd cs cs' 0 k (fun j => .int .u32 (wv (s.get j + r.get j)))) (fun i _ => 8 - (intOf i).toNat)
      case atStart => exact ⟨0, by omega, rfl, Ex.refl _ _, cs, hb2', Upd.zero _ _ _⟩
      case round =>
        obtain ⟨k, hk, rfl, hE, cs', hc', hU⟩ := hrel
        by_cases hk8 : k < 8
        · have hsz : 8 ≤ cs.size := by
            have := hs 7 (by omega)
            exact (Array.getElem?_eq_some_iff.1 this).1
          have i1 : (k : Int) < 8 := by omega
          have d1 : wr.cell? ⟨b, k, none⟩ = some (.int .u32 (wv (s.get k))) := by
            rw [hc'.cell, hU.at_ k, if_neg (by omega)]; exact hs k hk8
          have d2 : wr.cell? ⟨M, k, none⟩ = some (.int .u32 (wv (r.get k))) :=
            (World.cell?_of_block (w := W2) (hE.block M hms (by omega))).trans (hmx k hk8)
          have d3 := hc'.free k
          go_wp2_with fail
          go_region
          all_goals
            go_wp2
            go_roundw
            case rel => exact ⟨k + 1, by omega, by go_num, (hE.trans (Ex.drewN _ _ 1)).trans (Ex.set _ _ _ _), _, (hc'.drewN 1).set _ _, by have := hU.next (by omega) _ (show _ = Value.int .u32 (wv (s.get k + r.get k)) from rfl); rwa [Nat.zero_add] at this⟩
            case measure => simp [intOf]; omega
        · go_wp2
          go_end0
          have e8 : k = 8 := by omega
          subst e8
          refine ⟨rfl, (Ex.below hB2').trans hE, cs', hc', ?_⟩
          have : (fun j => Value.int .u32 (wv ((comp s bs).get j))) = (fun j => Value.int .u32 (wv (s.get j + r.get j))) := by
            funext j
            rw [← Hr.out]
            match j with
            | 0 | 1 | 2 | 3 | 4 | 5 | 6 => rfl
            | n + 7 => rfl
          rw [this]; exact hU
end Go.Proofs.YtcmkjgodgocdfaaDoor
