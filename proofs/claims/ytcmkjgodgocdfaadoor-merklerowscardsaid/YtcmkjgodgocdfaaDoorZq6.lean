/- Texts put together, in build order: R7, R8, D7, F1, F2, F3. -/
import Derived.Test.YtcmkjgodgocdfaaDoorZq4
import Derived.Test.YtcmkjgodgocdfaaDoorZq5
import Derived.Test.YtcmkjgodgocdfaaDoorRows
import Derived.Test.YtcmkjgodgocdfaaDoorZq2
import Derived.ProofKit
import Derived.LaidMore
import Derived.OpenShut
import Derived.ShutString
import Derived.ChangeOld
import Derived.Stop.Joined
import Derived.Test.YtcmkjgodgocdfaaDoorZq3
import Derived.ChangeSlices
import Derived.Deep.Slices
import Derived.ChangeSame
/- Leaving a function with the marks of many ranges over functions. -/
namespace Go.Proofs.YtcmkjgodgocdfaaDoor
open Go.RowKit
variable {n : Nat} {P : Program} {F : Fence}

/-- The marks of ranges that are done. -/
def marksOf (Ds : List Nat) : List Deferred := Ds.map fun D => { target := .collected D, args := #[] }
theorem marksOf_nil : marksOf [] = [] := rfl
theorem marksOf_cons (D : Nat) (Ds : List Nat) : marksOf (D :: Ds) = { target := .collected D, args := #[] } :: marksOf Ds := rfl
/-- Their blocks are empty, lie behind B, and no two are one. -/
structure Mrk (B : Nat) (Ds : List Nat) (w : World) : Prop where
  nd : Ds.Nodup
  low : ∀ D ∈ Ds, B ≤ D
  empty : ∀ D ∈ Ds, w.heap[D]? = some (.deferred (some []))
theorem Mrk.nil (B : Nat) (w : World) : Mrk B [] w := ⟨List.nodup_nil, fun _ h => (by cases h), fun _ h => (by cases h)⟩
theorem Mrk.lt {B : Nat} {Ds : List Nat} {w : World} (h : Mrk B Ds w) {D : Nat} (hD : D ∈ Ds) : D < w.heap.size := (Array.getElem?_eq_some_iff.1 (h.empty D hD)).1
theorem Mrk.keep {B : Nat} {Ds : List Nat} {w w' : World} (h : Mrk B Ds w) (k : ∀ D, B ≤ D → D < w.heap.size → w.heap[D]? = some (.deferred (some [])) → w'.heap[D]? = w.heap[D]?) : Mrk B Ds w' :=
  ⟨h.nd, h.low, fun D hD => (k D (h.low D hD) (h.lt hD) (h.empty D hD)).trans (h.empty D hD)⟩
theorem Mrk.below {B : Nat} {Ds : List Nat} {w w' : World} (h : Mrk B Ds w) (k : Below w.heap.size w w') : Mrk B Ds w' := h.keep fun D _ hl _ => k.block D hl
theorem Mrk.ex {B b : Nat} {Ds : List Nat} {w w' : World} (h : Mrk B Ds w) (k : Ex b w w') (hb : w.heap[b]? ≠ some (.deferred (some []))) : Mrk B Ds w' := h.keep fun D _ hl he => k.block D hl (fun e => hb (e ▸ he))
theorem Mrk.cons {B D : Nat} {Ds : List Nat} {w : World} (h : Mrk B Ds w) (hD : B ≤ D) (he : w.heap[D]? = some (.deferred (some []))) (hn : ∀ E ∈ Ds, E < D) : Mrk B (D :: Ds) w :=
  ⟨List.nodup_cons.2 ⟨fun hm => absurd (hn D hm) (Nat.lt_irrefl _), h.nd⟩, fun E hE => by
    rcases List.mem_cons.1 hE with rfl | hE
    · exact hD
    · exact h.low E hE, fun E hE => by
    rcases List.mem_cons.1 hE with rfl | hE
    · exact he
    · exact h.empty E hE⟩
/-- The way out: mark by mark; nothing below B is another. -/
theorem leaves_marks {fn : Func} {tmps : Array Value} {R : Ending → World → Prop} {B : Nat} : ∀ (Ds : List Nat) (w : World), Mrk B Ds w →
    (∀ w', Below B w w' → w'.heap.size = w.heap.size → LeavesInM F n P fn tmps R [] .returning w') → LeavesInM F n P fn tmps R (marksOf Ds) .returning w
  | [], w, _, h => h w (Below.refl _ _) rfl
  | D :: Ds, w, hm, h => by
    rw [marksOf_cons]
    have hE := hm.empty D (List.mem_cons_self ..)
    have hx := putObj_ex D w (.deferred none)
    refine ⟨by simp, .inl ⟨D, _, rfl, run_takeDeferred hE, ?_⟩⟩
    have hnd := List.nodup_cons.1 hm.nd
    have hs : (w.putObj D (.deferred none)).heap.size = w.heap.size := by simp
    refine leaves_marks Ds _ ⟨hnd.2, fun E hE => hm.low E (List.mem_cons_of_mem _ hE), fun E hE2 => ?_⟩ fun w' hB hs' => h w' ?_ (hs'.trans hs)
    · have hne : E ≠ D := fun e => hnd.1 (e ▸ hE2)
      exact (hx.block E (hm.lt (List.mem_cons_of_mem _ hE2)) hne).trans (hm.empty E (List.mem_cons_of_mem _ hE2))
    · have hl := hm.low D (List.mem_cons_self ..)
      have hlt := hm.lt (List.mem_cons_self ..)
      exact ⟨hB.os.trans hx.os, hB.tape.trans hx.tape, hB.output.trans hx.output, Nat.le_trans hx.size hB.size, fun q hq => (hB.block q hq).trans (hx.block q (by omega) (by omega))⟩
end Go.Proofs.YtcmkjgodgocdfaaDoor
/- Regions that draw their order: an end of one's own, two operations that may come up, one that is not wanted. -/
namespace Go.Proofs.YtcmkjgodgocdfaaDoor
open Go.RowKit
variable {P : Program} {ops : Array Oper} {Q : Exit → Act → World → Prop} {S : World → Prop} {kp : Nat → Bool}

/-- A region that draws its order, its end told by a relation of one's own. -/
theorem wp_region_via {id : Nat} {a : Act} {w : World} (S : World → Prop) (kp : Nat → Bool) (R : Act → Act → World → Prop) (hm : P.follows .mixedOrders = true)
    (h : anyK P ops (onlyN fun _ a' w' => R a a' w') S kp ops.size (Array.replicate ops.size false) a w.drew) (hQ : ∀ a' w', R a a' w' → Q .normal a' w') : (Code.region id ops true).wp P Q a w := by
  refine wp_mono (wp_region_any hm (any_of_K _ _ _ _ h)) ?_
  rintro e a' w' ⟨rfl, h⟩
  exact hQ a' w' h
/-- Two operations may come up. -/
theorem K_fork {i j : Nat} {oi oj : Oper} {fuel : Nat} {listed : Array Bool} {a : Act} {w : World} (hr : Region.ready .any ops listed = [i, j])
    (hi : ops[i]? = some oi) (hj : ops[j]? = some oj) (hwi : Region.wanted oi (yielded ops a.tmps) = true) (hwj : Region.wanted oj (yielded ops a.tmps) = true)
    (h1 : ∀ K : Act → World → Prop, (∀ a' w', (kp i = true → S w') → anyK P ops Q S kp fuel (listed.setIfInBounds i true) a' w' → K a' w') → oi.wp P a w K Q)
    (h2 : ∀ K : Act → World → Prop, (∀ a' w', (kp j = true → S w') → anyK P ops Q S kp fuel (listed.setIfInBounds j true) a' w' → K a' w') → oj.wp P a w K Q) : anyK P ops Q S kp (fuel + 1) listed a w :=
  ⟨fun h0 => (by rw [h0] at hr; cases hr), fun q hq => by
    rw [hr] at hq
    have : q = i ∨ q = j := by simpa using hq
    unfold wpOp
    rcases this with rfl | rfl
    · rw [hi]
      simp only []
      rw [if_pos hwi]
      exact .inl (h1 _ fun a' w' x y => ⟨x, y⟩)
    · rw [hj]
      simp only []
      rw [if_pos hwj]
      exact .inl (h2 _ fun a' w' x y => ⟨x, y⟩)⟩
/-- An operation that is not wanted. -/
theorem K_skip {i : Nat} {oi : Oper} {fuel : Nat} {listed : Array Bool} {a : Act} {w : World} (hi : ops[i]? = some oi)
    (hs : Region.noSelect ops = true) (hf : Region.free .any ops listed i = true) (hr : (Region.ready .any ops listed).contains i = true) (hk : asksAll ops kp i = true) (hc : closedB ops listed = true)
    (hw : Region.wanted oi (yielded ops a.tmps) = false) (hS : S w)
    (h : anyK P ops (onlyN Q) S kp fuel (listed.setIfInBounds i true) (a.put oi.dst undef) w) : anyK P ops (onlyN Q) S kp (fuel + 1) listed a w :=
  anyK_first hi (Region.noSelect_spec hs) (fun _ _ _ h => absurd h.1 (by simp)) hk fuel listed a w (closed_of hc) (Region.free_spec hi hf) (by simpa using hr) (.inr ⟨hw, rfl⟩) hS h
end Go.Proofs.YtcmkjgodgocdfaaDoor
/- Any byte of a row of digests of one's own is changed. -/
namespace Go.Proofs.YtcmkjgodgocdfaaDoor
open Go.RowKit

/-- The k-th digest with another byte. -/
def setB (ds : List Dig) (k j : Nat) (b : UInt8) : List Dig := ds.set k ((ds[k]?.getD []).set j b)
theorem setB_len (ds : List Dig) (k j : Nat) (b : UInt8) : (setB ds k j b).length = ds.length := by simp [setB]
theorem flat_setB : ∀ (ds : List Dig) (k j : Nat) (b : UInt8), All32 ds → k < ds.length → j < 32 → (setB ds k j b).flatten = ds.flatten.set (k * 32 + j) b
  | [], k, _, _, _, h, _ => by simp at h
  | d :: ds, 0, j, b, h32, _, hj => by
    have hd : d.length = 32 := h32 0 d rfl
    show ((d.set j b) :: ds).flatten = _
    rw [List.flatten_cons, List.flatten_cons, Nat.zero_mul, Nat.zero_add, List.set_append_left _ _ (by omega)]
  | d :: ds, k + 1, j, b, h32, h, hj => by
    have hd : d.length = 32 := h32 0 d rfl
    have ih := flat_setB ds k j b (fun i x hx => h32 (i + 1) x hx) (by simpa using h) hj
    show (d :: setB ds k j b).flatten = _
    rw [List.flatten_cons, ih, List.flatten_cons, List.set_append_right _ _ (by omega)]
    congr 2
    omega
theorem setB_all {ds : List Dig} (h : All32 ds) (k j : Nat) (b : UInt8) (hk : k < ds.length) : All32 (setB ds k j b) := fun i d hd => by
  unfold setB at hd
  by_cases e : k = i
  · subst e
    rw [List.getElem?_set_self hk] at hd
    rw [← Option.some.inj hd, List.length_set]
    exact h.at_ hk
  · rw [List.getElem?_set_ne e] at hd
    exact h i d hd
theorem OwnD.setB {base g n c : Nat} {w : World} {ds : List Dig} (h : OwnD base w (.slice (some ⟨g, 0, none⟩) n c) ds) (k j : Nat) (b : UInt8) (hk : k < ds.length) (hj : j < 32) :
    OwnD base (w.setCell ⟨g, k * 32 + j, none⟩ (.int .u8 (bv b))) (.slice (some ⟨g, 0, none⟩) n c) (setB ds k j b) := by
  refine ⟨setB_all h.1 k j b hk, ?_, ?_⟩
  · rw [setB_len, List.length_map, flat_len (setB_all h.1 k j b hk), setB_len]
  · rcases h.2.2 with ⟨e, _⟩ | ⟨g', cap, cur, e, hb, hg, hle, hm, hs, ht⟩
    · cases e
    · simp only [Value.slice.injEq, Option.some.injEq, Addr.mk.injEq, and_true] at e
      obtain ⟨rfl, hn, rfl⟩ := e
      refine .inr ⟨g, c, cur.setIfInBounds (k * 32 + j) (.int .u8 (bv b)), by rw [setB_len, ← hn], hb, ?_, by rw [setB_len]; exact hle, hm, by rw [Array.size_setIfInBounds]; exact hs, ?_⟩
      · exact Has.set (show Has w g cur 30 from hg) (k * 32 + j) _
      · rw [setB_len, flat_setB ds k j b h.1 hk hj, List.map_set, ← ht, Array.toList_setIfInBounds, List.take_set]
        rfl
theorem bv_xor (a b : UInt8) : bits .xor .u8 (bv a) (bv b) = bv (a ^^^ b) := by
  have key : ∀ m n : Fin 256, bits .xor .u8 (m.val : Int) (n.val : Int) = ((UInt8.ofNat m.val ^^^ UInt8.ofNat n.val).toNat : Int) := by decide +kernel
  have := key ⟨a.toNat, a.toNat_lt⟩ ⟨b.toNat, b.toNat_lt⟩
  simpa [bv] using this
end Go.Proofs.YtcmkjgodgocdfaaDoor
/- The frame of this seat's rows: what the listed variables give; a digest that comes in is 32 bytes. -/
namespace Go.Proofs.YtcmkjgodgocdfaaDoor
open Go.ChangeShapes Go.WideShapes Go.ChangeAt Go.RowKit

theorem own : ownKnob Tryd.prog.godebug = none := by kernel_rfl
theorem laidOut : laidOutB Tryd.prog = true := by kernel_rfl
theorem gSq : Tryd.prog.globalNamed "cachet/sha.squareWords" = some 0 := by kernel_rfl
theorem gCu : Tryd.prog.globalNamed "cachet/sha.cubeWords" = some 1 := by kernel_rfl
theorem tSq : (Tryd.prog.globals[0]?).map (·.type) = some 97 := by kernel_rfl
theorem tCu : (Tryd.prog.globals[1]?).map (·.type) = some 112 := by kernel_rfl

/-- An array of integers, one cell each, read as data. -/
theorem trod_ints {H : Type} {enc : TypeId × Value → H} {W : World} {base fuel n : Nat} {spare : Nat → Bool} {held : Bool} {t e : TypeId} {k : IntKind} {cs : List Value} {ds : List (DataW H)} {ps : List MemPlace}
    (ht : Tryd.prog.underlying t = some (.array n e)) (he : Tryd.prog.underlying e = some (.int k)) (hc : Tryd.prog.cellsOf e = 1) (h : DataW.trod enc Tryd.prog W base spare held fuel t cs = some (.agg ds, ps)) :
    ∀ j, j < n → ∃ z, cs[j]? = some (.int k z) ∧ ds[j]? = some (.lit (.int k z)) ∧ (Lit.int k z).wf = true := by
  obtain ⟨xs, m, rfl, hx, hlen, hn, hel⟩ := DataW.trod_array ht h
  simp only [Prod.mk.injEq, DataW.agg.injEq] at hx
  intro j hj
  have h1 := hel j hj
  rw [List.getElem?_eq_getElem (by omega), hc, Nat.mul_one] at h1
  obtain ⟨z, e1, e2, hw⟩ := DataW.trod_int he h1
  refine ⟨z, ?_, ?_, hw⟩
  · have := congrArg (fun l : List Value => l[0]?) e1
    simp only [List.getElem?_take_of_lt (Nat.zero_lt_one), List.getElem?_drop, Nat.add_zero] at this
    simpa using this
  · rw [hx.1, List.getElem?_map, List.getElem?_eq_getElem (by omega), e2]; rfl

abbrev laidL : List (String × DataW Unit) := [("cachet/sha.squareWords", Rows.laid_cachet_sha_squareWords), ("cachet/sha.cubeWords", Rows.laid_cachet_sha_cubeWords)]
theorem sq_lit : (Rows.laid_cachet_sha_squareWords : DataW Unit) = .agg (squareList.map fun n : Nat => .lit (.int .u32 (n : Int))) := rfl
theorem cu_lit : (Rows.laid_cachet_sha_cubeWords : DataW Unit) = .agg (cubeList.map fun n : Nat => .lit (.int .u32 (n : Int))) := rfl
theorem sq_wv (j : Nat) (h : j < 8) : ((squareList[j]?.getD 0 : Nat) : Int) = wv (squareW j) := by
  have key : ∀ i : Fin 8, ((squareList[i.val]?.getD 0 : Nat) : Int) = wv (squareW i.val) := by decide +kernel
  exact key ⟨j, h⟩
theorem cu_wv (j : Nat) (h : j < 64) : ((cubeList[j]?.getD 0 : Nat) : Int) = wv (cubeW j) := by
  have key : ∀ i : Fin 64, ((cubeList[i.val]?.getD 0 : Nat) : Int) = wv (cubeW i.val) := by decide +kernel
  exact key ⟨j, h⟩

/-- What the listed variables give. -/
theorem of_laid {W : World} (h : laidMetH Tryd.prog laidL W) : Glob W := by
  rw [MakeChecks.laidMetH_plain _ _ _ (by kernel_rfl)] at h
  obtain ⟨ps, ⟨g0, t0, cs0, f0, p0, q0, hg0, ht0, hv0, hd0, ⟨g1, t1, cs1, f1, p1, q1, hg1, ht1, hv1, hd1, _, _⟩, _⟩, _, _⟩ := h
  obtain rfl := Option.some.inj (gSq.symm.trans hg0)
  obtain rfl := Option.some.inj (gCu.symm.trans hg1)
  obtain rfl := Option.some.inj (tSq.symm.trans ht0)
  obtain rfl := Option.some.inj (tCu.symm.trans ht1)
  rw [sq_lit] at hd0
  rw [cu_lit] at hd1
  have a0 := trod_ints Tryd.underlying97 Tryd.underlying87 (by kernel_rfl) hd0
  have a1 := trod_ints Tryd.underlying112 Tryd.underlying87 (by kernel_rfl) hd1
  have c0 : ∀ j, j < 8 → W.cell? ⟨0, j, none⟩ = some (.int .u32 (wv (squareW j))) := fun j hj => by
    obtain ⟨z, e1, e2, _⟩ := a0 j hj
    rw [World.var?_cell hg0 hv0 j]
    rw [List.getElem?_map, List.getElem?_eq_getElem (show j < squareList.length from hj)] at e2
    simp only [Option.map_some, Option.some.injEq, DataW.lit.injEq, Lit.int.injEq, true_and] at e2
    have e3 := sq_wv j hj
    rw [List.getElem?_eq_getElem (show j < squareList.length from hj), Option.getD_some, e2] at e3
    rw [← e3, ← e1]; simp
  have c1 : ∀ j, j < 64 → W.cell? ⟨1, j, none⟩ = some (.int .u32 (wv (cubeW j))) := fun j hj => by
    obtain ⟨z, e1, e2, _⟩ := a1 j hj
    rw [World.var?_cell hg1 hv1 j]
    rw [List.getElem?_map, List.getElem?_eq_getElem (show j < cubeList.length from hj)] at e2
    simp only [Option.map_some, Option.some.injEq, DataW.lit.injEq, Lit.int.injEq, true_and] at e2
    have e3 := cu_wv j hj
    rw [List.getElem?_eq_getElem (show j < cubeList.length from hj), Option.getD_some, e2] at e3
    rw [← e3, ← e1]; simp
  exact ⟨c0, c1, block_lt_of_cell (c1 0 (by decide))⟩

set_option maxRecDepth 100000 in
/-- A digest that comes in is 32 bytes. -/
theorem dig_of {H : Type} {enc : TypeId × Value → H} {W : World} {base : Nat} {r : Reach} {v : Value} {d : DataW H} {ps : List MemPlace} (hv : Value.okWide Tryd.prog W r base 30 v) (h : DataW.Trod enc Tryd.prog W 0 (fun _ => true) true 30 v d ps) :
    ∃ x : List UInt8, x.length = 32 ∧ v = .agg (byteCells x) := by
  unfold Value.okWide at hv
  rw [Tryd.underlying30] at hv
  obtain ⟨cs, rfl, hsz, _⟩ := hv
  obtain ⟨fuel, hf⟩ := h
  have hc : Tryd.prog.cellsOf 30 = 32 := by kernel_rfl
  obtain ⟨xs, m, _, hx, _, _, _⟩ := DataW.trod_array Tryd.underlying30 hf
  rw [hx] at hf
  have a0 := trod_ints Tryd.underlying30 Tryd.underlying5 (by kernel_rfl) hf
  refine ⟨(List.range 32).map fun j => UInt8.ofNat (intOf (cs[j]?.getD undef)).toNat, by simp, ?_⟩
  congr 1
  refine cells_eq cs _ 32 (by simp) (hsz.trans hc) (fun j hj => ?_)
  obtain ⟨z, e1, _, hw⟩ := a0 j hj
  have e1' : cs[j]? = some (.int .u8 z) := by simpa [Value.cells] using e1
  rw [e1']
  simp only [List.getElem?_map, List.getElem?_range hj, Option.map_some, Option.getD_some, e1', intOf]
  have hb := bounds_u8 hw
  congr 2
  unfold bv
  rw [UInt8.toNat_ofNat']
  omega

/-- The door's own heap meets the condition: three closed facts. -/
theorem door_met (os : Os) (args : Array Value) : laidMetH Tryd.prog laidL ((World.doorLaid Tryd.prog 400 os).forCall (fun _ _ => 0) ⟨#[], args, []⟩).memory :=
  laidMetH_of_parts3 (fuel := 8) (laidMet_of_run' 8 (by kernel_rfl) (by kernel_rfl)) (by kernel_rfl) (by kernel_rfl)
end Go.Proofs.YtcmkjgodgocdfaaDoor
/- Digests that come in, in a row. -/
namespace Go.Proofs.YtcmkjgodgocdfaaDoor
open Go.ChangeShapes Go.WideShapes Go.ChangeAt Go.RowKit Go.Deep

theorem spot_none {W : World} {a : Addr} {v : Value} (h : W.cell? a = some v) : a.spot = none := by
  unfold World.cell? at h
  split at h
  · split at h
    · cases h
    · rename_i hh; simpa using hh
  · cases h
set_option maxRecDepth 100000 in
theorem dig_cells {H : Type} {enc : TypeId × Value → H} {W : World} {fuel : Nat} {cs : List Value} {x : DataW H × List MemPlace} (hl : cs.length = 32) (hf : DataW.trod enc Tryd.prog W 0 (fun _ => true) true fuel 30 cs = some x) :
    ∃ d : Dig, d.length = 32 ∧ cs = (byteCells d).toList := by
  obtain ⟨xs, m, _, hx, _, _, _⟩ := DataW.trod_array Tryd.underlying30 hf
  rw [hx] at hf
  have a0 := trod_ints Tryd.underlying30 Tryd.underlying5 (by kernel_rfl) hf
  refine ⟨(List.range 32).map fun j => UInt8.ofNat (intOf (cs[j]?.getD undef)).toNat, by simp, ?_⟩
  have h2 := cells_eq cs.toArray ((List.range 32).map fun j => UInt8.ofNat (intOf (cs[j]?.getD undef)).toNat) 32 (by simp) (by simpa using hl) (fun j hj => by
    obtain ⟨z, e1, _, hw⟩ := a0 j hj
    have e1' : cs.toArray[j]? = some (.int .u8 z) := by simpa using e1
    rw [e1']
    simp only [List.getElem?_map, List.getElem?_range hj, Option.map_some, Option.getD_some, e1, intOf]
    have hb := bounds_u8 hw
    congr 2
    unfold bv
    rw [UInt8.toNat_ofNat']
    omega)
  rw [← h2]
set_option maxRecDepth 100000 in
theorem digs_of {H : Type} {enc : TypeId × Value → H} {W : World} {base : Nat} {r : Reach} {v : Value} {d : DataW H} {ps : List MemPlace} (hs : 0 < W.heap.size) (hv : Value.okWide Tryd.prog W r base 22 v) (h : DataW.Trod enc Tryd.prog W 0 (fun _ => true) true 22 v d ps) :
    ∃ ds : List Dig, Digs W v ds := by
  obtain ⟨a0, len, cap, rfl⟩ := okWide_slice Tryd.underlying22 hv
  obtain ⟨fuel, hf⟩ := h
  have c30 : Tryd.prog.cellsOf 30 = 32 := by kernel_rfl
  rcases open_slice Tryd.underlying22 hf with ⟨hcs, _⟩ | ⟨a, len', cap', m, n, D, Pl, hcs, _, hle, hmx, hmm, _, hx⟩
  · simp [Value.cells] at hcs
    obtain ⟨rfl, rfl, rfl⟩ := hcs
    exact ⟨[], All32.nil, none, 0, 0, 0, rfl, Nat.le_refl _, Nat.zero_le _, fun h => absurd rfl h, fun i hi => absurd hi (by simp), hs⟩
  · simp [Value.cells] at hcs
    obtain ⟨rfl, rfl, rfl⟩ := hcs
    simp only [if_true] at hmm
    subst hmm
    by_cases h0 : len = 0
    · subst h0
      exact ⟨[], All32.nil, some a, m, 0, 0, rfl, Nat.zero_le _, hmx, fun h => absurd rfl h, fun i hi => absurd hi (by simp), hs⟩
    · have each : ∀ i, i < len → ∃ d : Dig, d.length = 32 ∧ ∀ j, j < 32 → W.cell? ((a.add (i * 32)).add j) = some (.int .u8 (bv (d[j]?.getD 0))) := fun i hi => by
        obtain ⟨cs', h1, h2⟩ := hx i (by omega)
        rw [c30] at h1
        obtain ⟨_, hlen, hcell⟩ := World.cells?_some h1
        obtain ⟨d, hd, rfl⟩ := dig_cells (by omega) h2
        refine ⟨d, hd, fun j hj => ?_⟩
        have k := hcell j (by omega)
        rw [k]
        have e := byteCells_at d j (by omega)
        have hlt : j < (byteCells d).toList.length := by rw [byteCells_len]; omega
        first
          | (rw [← e]; simp)
          | (have e2 : (byteCells d).toList[j]? = some (.int .u8 (bv (d[j]?.getD 0))) := by rw [Array.getElem?_toList]; exact e
             rw [← e2]; simp [hlt])
      obtain ⟨d0, hd0, hc0⟩ := each 0 (by omega)
      have hsp := spot_none (hc0 0 (by omega))
      obtain ⟨b, o, sp⟩ := a
      have hsp' : sp = none := by
        cases sp with
        | none => rfl
        | some q => simp [Addr.add] at hsp
      subst hsp'
      simp only [Addr.add_mid] at each hc0
      have hlt : b < W.heap.size := block_lt_of_cell (hc0 0 (by omega))
      let F : Nat → Dig := fun i => if hi : i < len then (each i hi).choose else []
      have hFl : ∀ i, i < len → (F i).length = 32 ∧ ∀ j, j < 32 → W.cell? ⟨b, o + i * 32 + j, none⟩ = some (.int .u8 (bv ((F i)[j]?.getD 0))) := fun i hi => by
        have hFi : F i = (each i hi).choose := dif_pos hi
        rw [hFi]
        exact (each i hi).choose_spec
      refine ⟨(List.range len).map F, fun i d hd => ?_, some ⟨b, o, none⟩, m, b, o, by simp, by simpa using hle, hmx, fun _ => rfl, fun i hi => ?_, hlt⟩
      · have hil : i < len := by have := (List.getElem?_eq_some_iff.1 hd).1; simpa using this
        have : F i = d := by simpa [hil] using hd
        rw [← this]; exact (hFl i hil).1
      · have hil : i < len := by simpa using hi
        have e : ((List.range len).map F)[i]?.getD [] = F i := by simp [hil]
        rw [e]
        intro j u hu
        obtain ⟨hF1, hF2⟩ := hFl i hil
        have hj : j < 32 := by have := (List.getElem?_eq_some_iff.1 hu).1; rw [byteCells_len] at this; omega
        have e2 : (byteCells (F i)).toList[j]? = (byteCells (F i))[j]? := by simp
        rw [hF2 j hj, ← hu, e2]
        exact (byteCells_at (F i) j (by rw [hF1]; exact hj)).symm
end Go.Proofs.YtcmkjgodgocdfaaDoor
/- A byte that comes in. -/
namespace Go.Proofs.YtcmkjgodgocdfaaDoor
open Go.ChangeShapes Go.WideShapes Go.ChangeAt Go.RowKit

set_option maxRecDepth 100000 in
theorem u8_of {H : Type} {enc : TypeId × Value → H} {W : World} {base : Nat} {r : Reach} {v : Value} {d : DataW H} {ps : List MemPlace} (hv : Value.okWide Tryd.prog W r base 5 v) (h : DataW.Trod enc Tryd.prog W 0 (fun _ => true) true 5 v d ps) :
    ∃ x : UInt8, v = .int .u8 (bv x) := by
  obtain ⟨n, rfl, _, _, hw⟩ := open_int Tryd.underlying5 hv h
  have hb := bounds_u8 hw
  refine ⟨UInt8.ofNat n.toNat, ?_⟩
  congr 1
  unfold bv
  rw [UInt8.toNat_ofNat']
  omega
end Go.Proofs.YtcmkjgodgocdfaaDoor
