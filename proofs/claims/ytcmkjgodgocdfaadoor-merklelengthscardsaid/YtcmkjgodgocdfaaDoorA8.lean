/- (*Hash).blocks: the function that is ranged over, whatever its round does that takes a block. -/
import Derived.Test.YtcmkjgodgocdfaaDoorA7
namespace Go.Proofs.YtcmkjgodgocdfaaDoor
open Go.RowKit

/-- But for blocks b and c, what was there is as it was. -/
structure Ex2 (b c : Nat) (w w' : World) : Prop where
  os : w'.os = w.os
  tape : w'.tape = w.tape
  output : w'.output = w.output
  size : w.heap.size ≤ w'.heap.size
  block : ∀ k, k < w.heap.size → k ≠ b → k ≠ c → w'.heap[k]? = w.heap[k]?
theorem Ex2.refl (b c : Nat) (w : World) : Ex2 b c w w := ⟨rfl, rfl, rfl, Nat.le_refl _, fun _ _ _ _ => rfl⟩
theorem Ex2.trans {b c : Nat} {x y z : World} (h : Ex2 b c x y) (k : Ex2 b c y z) : Ex2 b c x z :=
  ⟨k.os.trans h.os, k.tape.trans h.tape, k.output.trans h.output, Nat.le_trans h.size k.size, fun i hi hb hc => (k.block i (Nat.lt_of_lt_of_le hi h.size) hb hc).trans (h.block i hi hb hc)⟩
theorem Ex2.left {b : Nat} (c : Nat) {x y : World} (h : Ex b x y) : Ex2 b c x y := ⟨h.os, h.tape, h.output, h.size, fun i hi hb _ => h.block i hi hb⟩
theorem Ex2.right (b : Nat) {c : Nat} {x y : World} (h : Ex c x y) : Ex2 b c x y := ⟨h.os, h.tape, h.output, h.size, fun i hi _ hc => h.block i hi hc⟩
theorem Has.ex2 {w w' : World} {b c d t : Nat} {cs : Array Value} (h : Has w d cs t) (k : Ex2 b c w w') (hb : d ≠ b) (hc : d ≠ c) : Has w' d cs t := (k.block d h.lt hb hc).trans h
theorem Glob.ex2 {b c : Nat} {w w' : World} (h : Glob w) (k : Ex2 b c w w') (hb : 2 ≤ b) (hc : 2 ≤ c) : Glob w' :=
  ⟨fun j hj => (World.cell?_of_block (w := w) (k.block 0 (by have := h.size; omega) (by omega) (by omega))).trans (h.sq j hj),
   fun j hj => (World.cell?_of_block (w := w) (k.block 1 (by have := h.size; omega) (by omega) (by omega))).trans (h.cu j hj), Nat.le_trans h.size k.size⟩
theorem Ex.setRow (b : Nat) (w : World) (cs : Array Value) : Ex b w (w.setRow b cs) := ⟨rfl, rfl, rfl, by simp, fun i _ hb => setRow_other _ _ _ _ hb⟩

/-- The bytes of a slice's cells. -/
def BytesIn (w : World) (d o : Nat) (l : List UInt8) : Prop := ∀ j, j < l.length → w.cell? ⟨d, o + j, none⟩ = some (.int .u8 (bv (l[j]?.getD 0)))

/-- What a round does that takes a block: the state's words are those behind the block; all else is as it was. -/
def Takes (n l hb : Nat) (W0 : World) : Prop := ∀ (W : World) (cs : Array Value) (s : St) (blk : List UInt8), Has W hb cs 101 → StAt cs s → blk.length = 64 → Glob W → W.heap[l]? = W0.heap[l]? →
  W0.heap.size ≤ W.heap.size → (∀ xb, xb < W0.heap.size → W0.heap[xb]? = some (.cells #[.pointer (some ⟨hb, 0, none⟩)] 88 (0, 0)) → W.heap[xb]? = W0.heap[xb]?) →
  YieldAt Fence.wide n Tryd.prog l #[.agg (byteCells blk)] W fun e W' => e = .returned (.bool true) ∧ Ex hb W W' ∧ ∃ cs', Has W' hb cs' 101 ∧ Upd cs cs' 0 8 (fun j => .int .u32 (wv ((comp s blk).get j)))

/-- A builtin copy at a step of a region that draws its order, by its run. -/
theorem step_copy_run {P : Program} {ops : Array Oper} {o : Oper} {a : Act} {w w' : World} {K : Act → World → Prop} {Q : Exit → Act → World → Prop} {E : Prop} (hgd : o.guard = none) (d s : Operand) (dT sT : TypeId)
    (ho : o.op = .call { callee := .builtin .copy, args := #[d, s], argTypes := #[dT, sT] }) (x y v : Value) (hd : a.eval d = x) (hs : a.eval s = y)
    (hrun : (Builtin.copy_ #[dT, sT] o.type #[x, y]).run P w = .ok v w') (h : K (a.put o.dst v) w') :
    if Region.wanted o (yielded ops a.tmps) = true then Oper.wp P o a w K Q else E := by
  have hw : Region.wanted o (yielded ops a.tmps) = true := by simp [Region.wanted, hgd]
  rw [if_pos hw]
  unfold Oper.wp
  simp [execOp, ho, resolve, invoke, builtin, hd, hs, hrun, Result.andThen]
  exact h

theorem two_sets {W1 : World} {hb bb : Nat} {cells : Array Value} {v u sv : Value} (h1 : Has W1 hb cells 101) (h2 : Has W1 bb #[u] 77) (hne : bb ≠ hb) :
    Has ((W1.setCell ⟨hb, 72, none⟩ v).setCell ⟨bb, 0, none⟩ sv) hb (cells.setIfInBounds 72 v) 101 ∧ Has ((W1.setCell ⟨hb, 72, none⟩ v).setCell ⟨bb, 0, none⟩ sv) bb #[sv] 77 ∧ Ex2 hb bb W1 ((W1.setCell ⟨hb, 72, none⟩ v).setCell ⟨bb, 0, none⟩ sv) :=
  ⟨(h1.set 72 v).ex (Ex.set bb _ 0 sv) (Ne.symm hne), (h2.ex (Ex.set hb W1 72 v) hne).set 0 sv, (Ex2.left bb (Ex.set hb W1 72 v)).trans (Ex2.right hb (Ex.set bb _ 0 sv))⟩

theorem rest_range {W : World} {hb : Nat} {cells : Array Value} {blk : List UInt8} (h : Has W hb cells 101) (hl : blk.length = 64) (hr : ∀ j, j < 64 → cells[8 + j]? = some (.int .u8 (bv (blk[j]?.getD 0)))) :
    W.rangeAt hb 8 (byteCells blk).toList := fun j v hv => by
  have hj : j < 64 := by
    have := (List.getElem?_eq_some_iff.1 hv).1
    simpa [byteCells_size, hl] using this
  have hb := byteCells_at blk j (by omega)
  have e : (byteCells blk).toList[j]? = (byteCells blk)[j]? := by simp
  rw [h.cell, hr j hj, ← hv, e, hb]

/-- How long the slice in a box is. -/
def leftOf (bb : Nat) (w : World) : Nat := match w.cell? ⟨bb, 0, none⟩ with | some (.slice _ n _) => n | _ => 0
theorem leftOf_has {w : World} {bb t n cap : Nat} {a : Option Addr} (h : Has w bb #[.slice a n cap] t) : leftOf bb w = n := by
  unfold leftOf; rw [h.one]

set_option maxRecDepth 100000 in
set_option maxHeartbeats 2000000 in
theorem seq_any (n l hb xb bb db o cap : Nat) (a : Option Addr) (m d : List UInt8) (W : World) (hT : Takes (n - 1) l hb W)
    (hH : HashAt W hb m) (hx : Has W xb #[.pointer (some ⟨hb, 0, none⟩)] 88) (hbx : Has W bb #[.slice a d.length cap] 77) (ha : d ≠ [] → a = some ⟨db, o, none⟩) (hd : BytesIn W db o d) (hcap : d.length ≤ cap) (hg : Glob W)
    (hsm : m.length + d.length < 1000000000000) (hl : l < W.heap.size)
    (n1 : xb ≠ hb) (n2 : bb ≠ hb) (n3 : xb ≠ bb) (n4 : db ≠ hb) (n5 : db ≠ bb) (n6 : l ≠ hb) (n7 : l ≠ bb) (g1 : 2 ≤ hb) (g2 : 2 ≤ bb) (hdl : db < W.heap.size) :
    CallsIn Fence.wide n Tryd.prog 66 #[.func (.yield l) #[] #[], .pointer (some ⟨bb, 0, none⟩), .pointer (some ⟨xb, 0, none⟩)] W fun e W' => e = .returned (.tuple #[]) ∧ Ex2 hb bb W W' ∧ HashAt W' hb (m ++ d) := by
  refine callsIn_of_wp Tryd.func66 rfl trivial ?_ rfl
  simp only [Tryd.ntmps66, List.size_toArray, List.length_cons, List.length_nil, Nat.reduceAdd, Nat.reduceSub, Array.replicate_succ, Array.replicate_zero, List.push_toArray, List.append_toArray, List.nil_append, List.cons_append]
  gi_wp2
  gi_loopw [] (fun wr => ∃ (m' d' : List UInt8) (a' : Option Addr) (o' cap' : Nat), Hid (m' ++ d' = m ++ d) ∧ Ex2 hb bb W wr ∧ HashAt wr hb m' ∧ Has wr bb #[.slice a' d'.length cap'] 77 ∧ d'.length ≤ cap' ∧ (d' ≠ [] → a' = some ⟨db, o', none⟩) ∧ BytesIn wr db o' d') (fun wr => leftOf bb wr)
  case atStart => exact ⟨m, d, a, o, cap, rfl, Ex2.refl _ _ _, hH, hbx, hcap, ha, hd⟩
  case round =>
    obtain ⟨m', d', a', o', cap', hmd, hE, hH', hbx', hcap', ha', hd'⟩ := hrel
    have hmd' : m'.length + d'.length = m.length + d.length := by have := congrArg List.length hmd.out; simpa using this
    have HL : Hid (m'.length + d'.length = m.length + d.length) := hmd'
    clear hmd'
    have cbb := hbx'.one
    have cxb := (hx.ex2 hE n1 n3).one
    obtain ⟨cs, hcs, hC⟩ := hH'
    have c72 := (hcs.cell 72).trans hC.len
    cases d' with
    | nil =>
      gi_wp2
      go_end0
      exact ⟨rfl, hE, cs, hcs, by have := hmd.out; rw [List.append_nil] at this; rw [← this]; exact hC⟩
    | cons x xs =>
      have hne : (x :: xs) ≠ [] := by simp
      obtain rfl := ha' hne
      have hlen : 0 < (x :: xs).length := by simp
      generalize hdd : x :: xs = d' at *
      clear hdd
      have hlen' : (0 : Int) < (d'.length : Int) := by omega
      obtain ⟨p, hp⟩ : ∃ p, Hid (p = m'.length % 64) := ⟨_, rfl⟩
      obtain ⟨c, hc⟩ : ∃ c, Hid (c = Nat.min d'.length (64 - p)) := ⟨_, rfl⟩
      have p1 : p < 64 := by have := hp.out; omega
      have hc1 : Hid (0 < c ∧ c ≤ d'.length ∧ c ≤ 64 - p) := by
        have := hc.out; show _ ∧ _; rw [this]; change 0 < min _ _ ∧ min _ _ ≤ _ ∧ min _ _ ≤ _; omega
      have ep : (m'.length : Int) % 64 = (p : Int) := by have := hp.out; omega
      have etm : (m'.length : Int).tmod 64 = (p : Int) := by rw [Int.tmod_eq_emod_of_nonneg (by omega)]; exact ep
      have ew : IntKind.i64.wrap (p : Int) = (p : Int) := by rw [IntKind.wrap_i64]; omega
      have al : Tryd.prog.arrayLen 99 = 64 := by kernel_rfl
      have p2 : (p : Int) ≤ 64 := by omega
      have n64 : ¬ 64 = p := by omega
      obtain ⟨cells1, hU1, hcp⟩ : ∃ c1, Upd cs c1 (8 + p) c (fun j => .int .u8 (bv (d'[j]?.getD 0))) ∧ ∀ nq, (Builtin.copy_ #[77, 77] 3 #[.slice (some ⟨hb, 8 + p, none⟩) (64 - p) (64 - p), .slice (some ⟨db, o', none⟩) d'.length cap']).run Tryd.prog (wr.drewN nq) = .ok (.int .i64 (c : Int)) ((wr.drewN nq).setRow hb c1) := by
        have hcl : ((d'.take c).map fun b => Value.int .u8 (bv b)).length = c := by have := hc1.out; simp; omega
        have hsz := hC.size
        refine ⟨_, by have := upd_splice cs (8 + p) ((d'.take c).map fun b => Value.int .u8 (bv b)) (fun j => .int .u8 (bv (d'[j]?.getD 0))) (by rw [hcl]; have := hc1.out; omega) (fun j hj => by rw [hcl] at hj; have h2 := hc1.out; simp [List.getElem?_take_of_lt hj, show j < d'.length by omega]); rwa [hcl] at this, fun nq => ?_⟩
        have := run_copy_row (P := Tryd.prog) (wr.drewN nq) 77 77 3 5 hb (8 + p) (64 - p) (64 - p) ⟨db, o', none⟩ d'.length cap' cs 101 ((d'.take c).map fun b => Value.int .u8 (bv b)) Tryd.underlying77 (by kernel_rfl) hcs (by rw [hcl]; exact hc.out) (fun j v hv => by
            have hj : j < c := by have := (List.getElem?_eq_some_iff.1 hv).1; omega
            have h2 := hc1.out
            rw [Addr.add_mid]
            have h3 := hd' j (by omega)
            show wr.cell? _ = _
            rw [h3, ← hv]
            simp [List.getElem?_take_of_lt hj, show j < d'.length by omega]) (by rw [hcl]; have := hc1.out; omega) (by intro v hv; obtain ⟨b, _, rfl⟩ := List.mem_map.1 hv; rfl)
        rw [this, hcl]; rfl
      have d72 : cells1[72]? = some (.int .i64 (m'.length : Int)) := by rw [hU1.at_ 72, if_neg (by have := hc1.out; omega)]; exact hC.len
      gi_wp2
      refine wpIn_wide.2 ?_
      go_region_held3 (fun w' => w'.cell? ⟨xb, 0, none⟩ = some (.pointer (some ⟨hb, 0, none⟩)) ∧ w'.cell? ⟨bb, 0, none⟩ = some (.slice (some ⟨db, o', none⟩) d'.length cap') ∧ w'.cell? ⟨hb, 72, none⟩ = some (.int .i64 (m'.length : Int)))
        (first | (go_keep; done) | exact ⟨(World.cell?_of_block (w := wr) (setRow_other _ _ _ _ n1)).trans cxb, (World.cell?_of_block (w := wr) (setRow_other _ _ _ _ n2)).trans cbb, (cell_setRow_same _ _ _ _ _ _ _ hcs).trans d72⟩)
        (refine step_copy_run rfl _ _ 77 77 rfl _ _ _ (by rfl) (by rfl) (hcp _) ?_)
      refine named (p := Exit.then _ _ _ _) ?_
      intro W1 hW1
      have hE1 : Ex hb wr W1 := by rw [hW1]; exact (Ex.drewN _ _ 1).trans (Ex.setRow _ _ _)
      have hH1 : Has W1 hb cells1 101 := by rw [hW1]; exact setRow_heap _ _ _ _ _ _ (hcs.drewN 1)
      clear hW1 hcp
      have bx1 := hbx'.ex hE1 n2
      have xb1 := ((hx.ex2 hE n1 n3).ex hE1 n1).one
      have cb1 := bx1.one
      have fb1 := bx1.free 0
      have h72 := (hH1.cell 72).trans d72
      have f72 := hH1.free 72
      clear cxb cbb c72 d72 ep etm ew al p2 n64
      have q1 : m'.length + c < 1000000000000 := by have := hc1.out; have := HL.out; omega
      have q2 : (c : Int) ≤ (d'.length : Int) := by have := hc1.out; omega
      have q3 : c ≤ d'.length := by have := hc1.out; omega
      have q4 : (c : Int) ≤ (cap' : Int) := by omega
      have hmid := mid_of (d := d') (k := c) hC (by have := hc1.out; omega) (by have := hc1.out; have := hp.out; omega) q3 q1 (by have h := hU1; rw [hp.out] at h; exact h)
      have hml : (m' ++ d'.take c).length = m'.length + c := by simp; omega
      have hmd2 : Hid ((m' ++ d'.take c) ++ d'.drop c = m ++ d) := by show _ = _; rw [List.append_assoc, List.take_append_drop]; exact hmd.out
      have hdl2 : Hid ((d'.drop c).length = d'.length - c) := by show _ = _; simp
      have hml' : Hid ((m' ++ d'.take c).length = m'.length + c) := hml
      generalize m' ++ d'.take c = m2 at *
      clear hml
      obtain ⟨A, C2, hA, hC2, hA2, hC3⟩ : ∃ (A : Option Addr) (C2 : Nat), Hid ((if cap' = c then some (⟨db, o', none⟩ : Addr) else some ⟨db, o' + c, none⟩) = A) ∧ Hid (cap' - c = C2) ∧ Hid (d'.drop c ≠ [] → A = some ⟨db, o' + c, none⟩) ∧ Hid (d'.length - c ≤ C2) := by
        refine ⟨_, _, rfl, rfl, ?_, by show _ ≤ _; omega⟩
        intro h
        rw [if_neg]
        intro e
        apply h
        rw [List.drop_eq_nil_iff]; omega
      obtain ⟨t1, t2, t3⟩ := two_sets (v := .int .i64 ((m'.length : Int) + (c : Int))) (sv := .slice A (d'.length - c) C2) hH1 bx1 n2
      have hd1 : BytesIn W1 db o' d' := fun j hj => (World.cell?_of_block (w := wr) (hE1.block db (Nat.lt_of_lt_of_le hdl hE.size) n4)).trans (hd' j hj)
      have hd2 : BytesIn ((W1.setCell ⟨hb, 72, none⟩ (.int .i64 ((m'.length : Int) + (c : Int)))).setCell ⟨bb, 0, none⟩ (.slice A (d'.length - c) C2)) db (o' + c) (d'.drop c) := fun j hj => by
        rw [hdl2.out] at hj
        refine cell_set_blk n5 (cell_set_blk n4 ?_)
        have := hd1 (c + j) (by omega)
        rw [Nat.add_assoc, this, List.getElem?_drop]
      by_cases h64 : (m'.length + c) % 64 = 0
      · have e64 : (((m'.length : Int) + (c : Int)) % 64 == 0) = true := by simp; omega
        have hm0 : m2.length % 64 = 0 := by rw [hml'.out]; exact h64
        have hbl := lastB_len m2 hmid.pos hm0
        have hrg := rest_range t1 hbl (fun j hj => hmid.last hm0 j hj)
        have hbs : (byteCells (lastB m2)).toList.length = 64 := by rw [Array.length_toList, byteCells_size, hbl]
        have hW2 : ((W1.setCell ⟨hb, 72, none⟩ (.int .i64 ((m'.length : Int) + (c : Int)))).setCell ⟨bb, 0, none⟩ (.slice A (d'.length - c) C2)).heap[l]? = W.heap[l]? :=
          (((hE.trans (Ex2.left bb hE1)).trans t3).block l hl n6 n7)
        have hE2 := (hE.trans (Ex2.left bb hE1)).trans t3
        obtain ⟨fn, tmps, assign, body, hy, hR⟩ := hT _ _ _ (lastB m2) t1 hmid.st hbl (hg.ex2 hE2 g1 g2) hW2 hE2.size (fun x hx1 hx2 => hE2.block x hx1 (fun e => by
            obtain ⟨c0, k0, _⟩ := hH
            rw [e] at hx2
            have := k0.symm.trans hx2
            simp at this) (fun e => by
            rw [e] at hx2
            have := hbx.symm.trans hx2
            simp at this))
        have HR : Hid (RoundIn Fence.wide (n - 1) Tryd.prog l fn tmps assign body _ _) := hR
        clear hR hW2
        by_cases hcc : cap' = c
        all_goals
          have hA3 := hA.out
          have hC4 := hC2.out
          first | (rw [if_neg hcc] at hA3) | (rw [if_pos hcc] at hA3; rw [hcc, Nat.sub_self] at hC4)
          subst hA3 hC4
          gi_wp2_with (refine wpListIn_load_mid (by rfl) 99 _ rfl hb 8 (by rfl) _ _ hrg Tryd.underlying99 rfl (by rw [hbs]; kernel_rfl) ?_)
          refine ⟨fun h => (by cases h), HR.out.mono ?_⟩
          rintro e W3 ⟨rfl, hE3, cs3, hc3, hU3⟩
          gi_wp2_with fail
          go_roundw
          case rel => exact ⟨m2, d'.drop c, _, o' + c, _, hmd2, hE2.trans (Ex2.left _ hE3), ⟨_, hc3, hmid.whole hm0 hU3⟩, by rw [hdl2.out]; exact t2.ex hE3 n2, by rw [hdl2.out]; exact hC3.out, (by first | exact fun _ => rfl | exact hA2.out), fun j hj => (World.cell?_of_block (hE3.block db (Nat.lt_of_lt_of_le hdl hE2.size) n4)).trans (hd2 j hj)⟩
          case measure => rw [leftOf_has (t2.ex hE3 n2), leftOf_has hbx']; have := hc1.out; omega
      · have e64 : (((m'.length : Int) + (c : Int)) % 64 == 0) = false := by simp; omega
        have hfin : HCells (cells1.setIfInBounds 72 (.int .i64 ((m'.length : Int) + (c : Int)))) m2 := hmid.part (by rw [hml'.out]; exact h64)
        by_cases hcc : cap' = c
        all_goals
          have hA3 := hA.out
          have hC4 := hC2.out
          first | (rw [if_neg hcc] at hA3) | (rw [if_pos hcc] at hA3; rw [hcc, Nat.sub_self] at hC4)
          subst hA3 hC4
          gi_wp2_with fail
          refine ⟨fun _ h => (by cases h), ?_⟩
          gi_wp2_with fail
          go_roundw
          case rel => exact ⟨m2, d'.drop c, _, o' + c, _, hmd2, (hE.trans (Ex2.left _ hE1)).trans t3, ⟨_, t1, hfin⟩, by rw [hdl2.out]; exact t2, by rw [hdl2.out]; exact hC3.out, (by first | exact fun _ => rfl | exact hA2.out), hd2⟩
          case measure => rw [leftOf_has t2, leftOf_has hbx']; have := hc1.out; omega
end Go.Proofs.YtcmkjgodgocdfaaDoor
