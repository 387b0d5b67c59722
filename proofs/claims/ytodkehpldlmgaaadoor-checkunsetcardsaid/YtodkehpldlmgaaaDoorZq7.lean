/- Texts put together, in build order: D5, F1, F2. -/
import Derived.Test.YtodkehpldlmgaaaDoorZq6
import Derived.Test.YtodkehpldlmgaaaDoorRows
import Derived.Test.YtodkehpldlmgaaaDoorZq2
import Derived.ProofKit
import Derived.LaidMore
import Derived.OpenShut
import Derived.ShutString
import Derived.ChangeOld
import Derived.ChangeSlices
import Derived.Deep.Slices
import Derived.Stop.Joined
import Derived.Test.YtodkehpldlmgaaaDoorZq3
/- Behind, of anything. -/
namespace Go.Proofs.YtodkehpldlmgaaaDoor
open Go.RowKit

theorem knB_right {k : Kn} (h : knB k = true) (hk : KOk k) : KnR k := fun n hn => by
  unfold knB at h
  rw [List.all_eq_true] at h
  exact ⟨h n (by simpa using hn), hk n hn⟩
theorem right_knB {k : Kn} (h : KnR k) : knB k = true := knB_yes fun n hn => (h n hn).1
/-- What Behind answers: both ways, and the error. -/
def behV (i : Ins) (c : Int) (k : Kn) : Kn × Kn × Int :=
  if chkE c [i] ≠ 0 ∨ knB k = false then (noK, noK, 2) else if k.come = false then (noK, noK, 0) else match outI i c k with
    | .ok p => (p.1, p.2, 0)
    | .error x => (noK, noK, x.errno)
theorem behV_ok {i : Ins} {c : Int} {k n j : Kn} (h1 : chkE c [i] = 0) (h2 : knB k = true) (h3 : k.come = true) (h : outI i c k = .ok (n, j)) : behV i c k = (n, j, 0) := by
  unfold behV
  rw [if_neg (by rw [h1, h2]; decide), if_neg (by rw [h3]; decide), h]
theorem behV_no {i : Ins} {c : Int} {k : Kn} {x : Wrong} (h1 : chkE c [i] = 0) (h2 : knB k = true) (h3 : k.come = true) (h : outI i c k = .error x) : behV i c k = (noK, noK, x.errno) := by
  unfold behV
  rw [if_neg (by rw [h1, h2]; decide), if_neg (by rw [h3]; decide), h]
theorem chk_one {i : Ins} {c : Int} (hm : MayI i) (h0 : 0 ≤ c) (h1 : c ≤ 256) : chkE c [i] = 0 := by
  unfold chkE
  have : i.may = true := mayB_iff.2 hm.1
  rw [if_neg (by omega), if_pos (by simp [this]), if_neg (by simp)]
theorem behind_any (i : Ins) (c : Int) (k : Kn) (w : World) (hG : Glob w) (hu : i.imm < 4294967296) (hk : KOk k) :
    Calls Tryd.prog 17 #[.agg i.a, .int .i64 c, .agg k.a] w fun e w' => e = .returned (.tuple #[.agg (behV i c k).1.a, .agg (behV i c k).2.1.a, .int .i64 (behV i c k).2.2]) ∧ Below w.heap.size w w' := by
  by_cases h1 : chkE c [i] = 0
  · cases h2 : knB k with
    | false =>
      have e : behV i c k = (noK, noK, 2) := by unfold behV; rw [if_pos (.inr h2)]
      rw [e]
      exact behind_kn i c k w hG h1 h2
    | true =>
      cases h3 : k.come with
      | false =>
        have e : behV i c k = (noK, noK, 0) := by unfold behV; rw [if_neg (by rw [h1, h2]; decide), if_pos h3]
        rw [e]
        exact behind_nc i c k w hG h1 h2 h3
      | true =>
        have hm := chk_may h1 (List.mem_singleton.2 rfl) hu
        obtain ⟨n, hop⟩ : ∃ n : Nat, i.op = (n : Int) := ⟨i.op.toNat, by have := hm.1.1; omega⟩
        cases h4 : outI i c k with
        | ok p =>
          obtain ⟨a, b⟩ := p
          rw [behV_ok h1 h2 h3 h4]
          exact behind_ok i c k a b w hG h1 h2 h3 hm (knB_right h2 hk) n hop h4
        | error x =>
          rw [behV_no h1 h2 h3 h4]
          exact behind_no i c k x w hG h1 h2 h3 hm (knB_right h2 hk) n hop h4
  · have e : behV i c k = (noK, noK, 2) := by unfold behV; rw [if_pos (.inl h1)]
    rw [e]
    exact behind_bad i c k w hG h1
theorem Ph2.keepEnd {j k i : Nat} {S : (Nat → Bool) → (Nat → Value) → World → Prop} {T U : (Nat → Value) → World → Prop} {l : Nat → Bool} {vs : Nat → Value} {v : Value} {X' : World} (hj : l j = true) (hk : l k = true) (h1 : j ≠ i) (h2 : k ≠ i) (h : U (upd vs i v) X') : Ph2 j k S T U (upd l i true) (upd vs i v) X' :=
  ⟨(fun h => by rw [upd_other _ _ h1, hj] at h; cases h), (fun _ h => by rw [upd_other _ _ h2, hk] at h; cases h), fun _ => h⟩
end Go.Proofs.YtodkehpldlmgaaaDoor
/- The frame of this seat's rows: what the listed variable gives. -/
namespace Go.Proofs.YtodkehpldlmgaaaDoor
open Go.ChangeShapes Go.WideShapes Go.ChangeAt Go.RowKit Go.Deep

theorem own : ownKnob Tryd.prog.godebug = none := by kernel_rfl
theorem laidOut : laidOutB Tryd.prog = true := by kernel_rfl
theorem gOps : Tryd.prog.globalNamed "cachet/code.ops" = some 0 := by kernel_rfl
theorem tOps : (Tryd.prog.globals[0]?).map (·.type) = some 112 := by kernel_rfl
abbrev laidL : List (String × DataW Unit) := [("cachet/code.ops", Rows.laid_cachet_code_ops)]
theorem ops_lit : (Rows.laid_cachet_code_ops : DataW Unit) = .agg (opsL.map fun x => .agg [.lit (.string x.1), .lit (.int .i64 x.2)]) := rfl

theorem two_of {α : Type} : ∀ (xs : List α), xs.length = 2 → ∃ a b, xs = [a, b]
  | [a, b], _ => ⟨a, b, rfl⟩
theorem five_of {α : Type} : ∀ (xs : List α), xs.length = 5 → ∃ a b c d e, xs = [a, b, c, d, e]
  | [a, b, c, d, e], _ => ⟨a, b, c, d, e, rfl⟩
set_option maxRecDepth 100000 in
theorem pair_of {H : Type} {enc : TypeId × Value → H} {W : World} {base fuel : Nat} {spare : Nat → Bool} {held : Bool} {cs : List Value} {n : List UInt8} {u : Int} {ps : List MemPlace}
    (h : DataW.trod enc Tryd.prog W base spare held fuel 111 cs = some (.agg [.lit (.string n), .lit (.int .i64 u)], ps)) : cs = [.string ⟨n.toArray⟩, .int .i64 u] := by
  obtain ⟨xs, k, hk, hxy, hl, hxl, hf⟩ := DataW.trod_struct Tryd.underlying111 h
  have hl2 : cs.length = 2 := hl.trans (by kernel_rfl)
  obtain ⟨v0, v1, rfl⟩ := two_of cs hl2
  obtain ⟨x0, x1, rfl⟩ := two_of xs hxl
  have h0 := hf 0 _ rfl
  have h1 := hf 1 _ rfl
  have c9 : Tryd.prog.cellsOf 9 = 1 := by kernel_rfl
  have c110 : Tryd.prog.cellsOf 110 = 1 := by kernel_rfl
  have e0 : DataW.trod enc Tryd.prog W base spare held k 9 [v0] = some x0 := by
    have : DataW.trod enc Tryd.prog W base spare held k 9 (([v0, v1].drop 0).take (Tryd.prog.cellsOf 9)) = some x0 := h0
    rw [c9] at this; exact this
  have e1 : DataW.trod enc Tryd.prog W base spare held k 110 [v1] = some x1 := by
    have : DataW.trod enc Tryd.prog W base spare held k 110 (([v0, v1].drop 1).take (Tryd.prog.cellsOf 110)) = some x1 := h1
    rw [c110] at this; exact this
  obtain ⟨s, hs, hxs, _⟩ := DataW.trod_string Tryd.underlying9 e0
  obtain ⟨z, hz, hxz, _⟩ := DataW.trod_int Tryd.underlying110 e1
  obtain rfl : v0 = .string s := by simpa using hs
  obtain rfl : v1 = .int .i64 z := by simpa using hz
  have h2 := (Prod.mk.inj hxy).1
  rw [List.map_cons, List.map_cons, List.map_nil, hxs, hxz] at h2
  simp only [DataW.agg.injEq, List.cons.injEq, DataW.lit.injEq, Lit.string.injEq, Lit.int.injEq, true_and, and_true] at h2
  obtain ⟨rfl, rfl⟩ := h2
  rfl
theorem opsL_len : opsL.length = 25 := rfl

set_option maxRecDepth 100000 in
theorem of_laid {W : World} (h : laidMetH Tryd.prog laidL W) : Glob W := by
  rw [MakeChecks.laidMetH_plain _ _ _ (by kernel_rfl)] at h
  obtain ⟨ps, ⟨g0, t0, cs0, f0, p0, q0, hg0, ht0, hv0, hd0, _, _⟩, _, _⟩ := h
  obtain rfl := Option.some.inj (gOps.symm.trans hg0)
  obtain rfl := Option.some.inj (tOps.symm.trans ht0)
  rw [ops_lit] at hd0
  obtain ⟨xs, m, rfl, hx, hlen, hn, hel⟩ := DataW.trod_array Tryd.underlying112 hd0
  simp only [Prod.mk.injEq, DataW.agg.injEq] at hx
  have c111 : Tryd.prog.cellsOf 111 = 2 := by kernel_rfl
  have key : ∀ j, j < 25 → W.cell? ⟨0, j * 2, none⟩ = some (.string ⟨(nameL j).toArray⟩) ∧ W.cell? ⟨0, j * 2 + 1, none⟩ = some (.int .i64 (usesN j)) := fun j hj => by
    have h1 := hel j hj
    rw [List.getElem?_eq_getElem (by omega), c111] at h1
    have e2 : (opsL.map fun x => (DataW.agg [.lit (.string x.1), .lit (.int .i64 x.2)] : DataW Unit))[j]? = some (.agg [.lit (.string (nameL j)), .lit (.int .i64 (usesN j))]) := by
      rw [List.getElem?_map]; unfold nameL usesN
      rw [List.getElem?_eq_getElem (by rw [opsL_len]; exact hj)]; rfl
    rw [hx.1, List.getElem?_map, List.getElem?_eq_getElem (by omega)] at e2
    simp only [Option.map_some, Option.some.injEq] at e2
    have hc := pair_of (n := nameL j) (u := usesN j) (ps := xs[j].2) (by rw [h1]; exact congrArg some (Prod.ext e2 rfl))
    have k0 := congrArg (fun l : List Value => l[0]?) hc
    have k1 := congrArg (fun l : List Value => l[1]?) hc
    simp only [List.getElem?_take_of_lt (show 0 < 2 by decide), List.getElem?_take_of_lt (show 1 < 2 by decide), List.getElem?_drop, Nat.add_zero] at k0 k1
    refine ⟨?_, ?_⟩
    · rw [World.var?_cell hg0 hv0 (j * 2)]; simpa using k0
    · rw [World.var?_cell hg0 hv0 (j * 2 + 1)]; simpa using k1
  exact ⟨fun j hj => (key j hj).1, fun j hj => (key j hj).2⟩
/-- The door's own heap meets the condition: three closed facts. -/
theorem door_met (os : Os) (args : Array Value) : laidMetH Tryd.prog laidL ((World.doorLaid Tryd.prog 400 os).forCall (fun _ _ => 0) ⟨#[], args, []⟩).memory :=
  laidMetH_of_parts3 (fuel := 8) (laidMet_of_run' 8 (by kernel_rfl) (by kernel_rfl)) (by kernel_rfl) (by kernel_rfl)
end Go.Proofs.YtodkehpldlmgaaaDoor
/- What comes in: words, instructions, extensions, ranges, what is known. -/
namespace Go.Proofs.YtodkehpldlmgaaaDoor
open Go.ChangeShapes Go.WideShapes Go.ChangeAt Go.RowKit Go.Deep

theorem spot_none {W : World} {a : Addr} {v : Value} (h : W.cell? a = some v) : a.spot = none := by
  unfold World.cell? at h
  split at h
  · split at h
    · cases h
    · rename_i hh; simpa using hh
  · cases h

set_option maxRecDepth 100000 in
theorem u32_of {H : Type} {enc : TypeId × Value → H} {W : World} {base : Nat} {r : Reach} {v : Value} {d : DataW H} {ps : List MemPlace} (hv : Value.okWide Tryd.prog W r base 36 v) (h : DataW.Trod enc Tryd.prog W 0 (fun _ => true) true 36 v d ps) :
    ∃ x : Nat, v = .int .u32 x ∧ x < 4294967296 := by
  obtain ⟨n, rfl, _, _, hw⟩ := open_int Tryd.underlying36 hv h
  have hb := bounds_u32 hw
  have e : n = (n.toNat : Int) := by omega
  exact ⟨n.toNat, congrArg (Value.int .u32) e, by omega⟩
set_option maxRecDepth 100000 in
theorem ins_cells {H : Type} {enc : TypeId × Value → H} {W : World} {fuel : Nat} {cs : List Value} {x : DataW H × List MemPlace} (h : DataW.trod enc Tryd.prog W 0 (fun _ => true) true fuel 38 cs = some x) :
    ∃ i : Ins, cs = i.cells ∧ i.imm < 4294967296 := by
  obtain ⟨xs, k, hk, hxy, hl, hxl, hf⟩ := DataW.trod_struct Tryd.underlying38 h
  obtain ⟨v0, v1, v2, v3, v4, rfl⟩ := five_of cs (hl.trans (by kernel_rfl))
  obtain ⟨x0, x1, x2, x3, x4, rfl⟩ := five_of xs hxl
  have c3 : Tryd.prog.cellsOf 3 = 1 := by kernel_rfl
  have c35 : Tryd.prog.cellsOf 35 = 1 := by kernel_rfl
  have c36 : Tryd.prog.cellsOf 36 = 1 := by kernel_rfl
  have h0 : DataW.trod enc Tryd.prog W 0 (fun _ => true) true k 35 (([v0, v1, v2, v3, v4].drop 0).take (Tryd.prog.cellsOf 35)) = some x0 := hf 0 _ rfl
  have h1 : DataW.trod enc Tryd.prog W 0 (fun _ => true) true k 3 (([v0, v1, v2, v3, v4].drop 1).take (Tryd.prog.cellsOf 3)) = some x1 := hf 1 _ rfl
  have h2 : DataW.trod enc Tryd.prog W 0 (fun _ => true) true k 3 (([v0, v1, v2, v3, v4].drop 2).take (Tryd.prog.cellsOf 3)) = some x2 := hf 2 _ rfl
  have h3 : DataW.trod enc Tryd.prog W 0 (fun _ => true) true k 3 (([v0, v1, v2, v3, v4].drop 3).take (Tryd.prog.cellsOf 3)) = some x3 := hf 3 _ rfl
  have h4 : DataW.trod enc Tryd.prog W 0 (fun _ => true) true k 36 (([v0, v1, v2, v3, v4].drop 4).take (Tryd.prog.cellsOf 36)) = some x4 := hf 4 _ rfl
  rw [c35] at h0
  rw [c3] at h1 h2 h3
  rw [c36] at h4
  obtain ⟨z0, hz0, _⟩ := DataW.trod_int Tryd.underlying35 h0
  obtain ⟨z1, hz1, _⟩ := DataW.trod_int Tryd.underlying3 h1
  obtain ⟨z2, hz2, _⟩ := DataW.trod_int Tryd.underlying3 h2
  obtain ⟨z3, hz3, _⟩ := DataW.trod_int Tryd.underlying3 h3
  obtain ⟨z4, hz4, _, hw⟩ := DataW.trod_int Tryd.underlying36 h4
  obtain rfl : v0 = .int .i64 z0 := by simpa using hz0
  obtain rfl : v1 = .int .i64 z1 := by simpa using hz1
  obtain rfl : v2 = .int .i64 z2 := by simpa using hz2
  obtain rfl : v3 = .int .i64 z3 := by simpa using hz3
  obtain rfl : v4 = .int .u32 z4 := by simpa using hz4
  have hb := bounds_u32 hw
  refine ⟨⟨z0, z1, z2, z3, z4.toNat⟩, ?_, by show z4.toNat < _; omega⟩
  unfold Ins.cells
  show _ = [Value.int .i64 z0, .int .i64 z1, .int .i64 z2, .int .i64 z3, .int .u32 (z4.toNat : Int)]
  rw [show ((z4.toNat : Nat) : Int) = z4 by omega]
/-- Instructions that come in: none, or such as lie somewhere. -/
theorem prg_cells {H : Type} {enc : TypeId × Value → H} {W : World} {fuel : Nat} {v : Value} {x : DataW H × List MemPlace} (hs : 0 < W.heap.size) (hf : DataW.trod enc Tryd.prog W 0 (fun _ => true) true fuel 22 [v] = some x) :
    ∃ l : List Ins, Prg W v l ∧ ∀ i ∈ l, i.imm < 4294967296 := by
  have c38 : Tryd.prog.cellsOf 38 = 5 := by kernel_rfl
  rcases open_slice Tryd.underlying22 hf with ⟨hcs, _⟩ | ⟨a, len, cap, m, n, D, Pl, hcs, _, hle, _, hmm, _, hx⟩
  · obtain rfl : v = .slice none 0 0 := by simpa using hcs
    exact ⟨[], ⟨none, 0, 0, 0, rfl, fun h => absurd rfl h, ⟨fun k i h => by simp at h, fun k i h => by simp at h, fun k i h => by simp at h, fun k i h => by simp at h, fun k i h => by simp at h⟩, hs⟩, fun i hi => by simp at hi⟩
  · obtain rfl : v = .slice (some a) len cap := by simpa using hcs
    simp only [if_true] at hmm
    subst hmm
    by_cases h0 : len = 0
    · subst h0
      exact ⟨[], ⟨some a, m, 0, 0, rfl, fun h => absurd rfl h, ⟨fun k i h => by simp at h, fun k i h => by simp at h, fun k i h => by simp at h, fun k i h => by simp at h, fun k i h => by simp at h⟩, hs⟩, fun i hi => by simp at hi⟩
    · have each : ∀ k, k < len → ∃ i : Ins, (∀ j u, i.cells[j]? = some u → W.cell? ((a.add (k * 5)).add j) = some u) ∧ i.imm < 4294967296 := fun k hk => by
        obtain ⟨cs', h1, h2⟩ := hx k (by omega)
        rw [c38] at h1
        obtain ⟨_, hlen, hcell⟩ := World.cells?_some h1
        obtain ⟨i, rfl, hb⟩ := ins_cells h2
        refine ⟨i, fun j u hj => ?_, hb⟩
        have hj5 : j < 5 := (List.getElem?_eq_some_iff.1 hj).1
        rw [hcell j hj5, ← hj]
      obtain ⟨i0, hc0, _⟩ := each 0 (by omega)
      have hc00 := hc0 0 _ rfl
      have hsp := spot_none hc00
      obtain ⟨b, o, sp⟩ := a
      have hsp' : sp = none := by
        cases sp with
        | none => rfl
        | some q => simp [Addr.add] at hsp
      subst hsp'
      simp only [Addr.add_mid] at each hc00
      have hlt : b < W.heap.size := block_of_cell hc00
      let F : Nat → Ins := fun k => if hk : k < len then (each k hk).choose else ⟨0, 0, 0, 0, 0⟩
      have hF : ∀ k i, ((List.range len).map F)[k]? = some i → (∀ j u, i.cells[j]? = some u → W.cell? ⟨b, o + k * 5 + j, none⟩ = some u) ∧ i.imm < 4294967296 := fun k i hi => by
        have hkl : k < len := by have := (List.getElem?_eq_some_iff.1 hi).1; simpa using this
        have e1 : F k = i := by simpa [hkl] using hi
        have e2 : F k = (each k hkl).choose := dif_pos hkl
        have := (each k hkl).choose_spec
        rw [← e2, e1] at this
        exact this
      refine ⟨(List.range len).map F, ⟨some ⟨b, o, none⟩, m, b, o, by simp, fun _ => rfl, ⟨fun k i h => (hF k i h).1 0 _ rfl, fun k i h => (hF k i h).1 1 _ rfl, fun k i h => (hF k i h).1 2 _ rfl, fun k i h => (hF k i h).1 3 _ rfl, fun k i h => (hF k i h).1 4 _ rfl⟩, hlt⟩, fun i hi => ?_⟩
      obtain ⟨k, hk, e⟩ := List.mem_iff_getElem.1 hi
      exact (hF k i (by rw [List.getElem?_eq_getElem hk, e])).2
set_option maxRecDepth 100000 in
/-- An extension that comes in. -/
theorem prog_of {H : Type} {enc : TypeId × Value → H} {W : World} {base : Nat} {r : Reach} {v : Value} {d : DataW H} {ps : List MemPlace} (hs : 0 < W.heap.size) (hv : Value.okWide Tryd.prog W r base 24 v) (h : DataW.Trod enc Tryd.prog W 0 (fun _ => true) true 24 v d ps) :
    ∃ (ctx : Int) (sv : Value) (l : List Ins), v = .agg #[.int .i64 ctx, sv] ∧ Prg W sv l ∧ ∀ i ∈ l, i.imm < 4294967296 := by
  unfold Value.okWide at hv
  rw [Tryd.underlying24] at hv
  obtain ⟨cs, rfl, hsz, _⟩ := hv
  obtain ⟨fuel, hf⟩ := h
  obtain ⟨xs, k, hk, hxy, hl, hxl, hfl⟩ := DataW.trod_struct Tryd.underlying24 hf
  obtain ⟨v0, v1, hcs⟩ := two_of cs.toList (by rw [Array.length_toList, hsz]; kernel_rfl)
  have hcs' : cs = #[v0, v1] := by cases cs; simp at hcs; rw [hcs]
  subst hcs'
  obtain ⟨x0, x1, rfl⟩ := two_of xs hxl
  have c3 : Tryd.prog.cellsOf 3 = 1 := by kernel_rfl
  have c22 : Tryd.prog.cellsOf 22 = 1 := by kernel_rfl
  have h0 : DataW.trod enc Tryd.prog W 0 (fun _ => true) true k 3 (([v0, v1].drop 0).take (Tryd.prog.cellsOf 3)) = some x0 := hfl 0 _ rfl
  have h1 : DataW.trod enc Tryd.prog W 0 (fun _ => true) true k 22 (([v0, v1].drop 1).take (Tryd.prog.cellsOf 22)) = some x1 := hfl 1 _ rfl
  rw [c3] at h0
  rw [c22] at h1
  obtain ⟨z0, hz0, _⟩ := DataW.trod_int Tryd.underlying3 h0
  obtain rfl : v0 = .int .i64 z0 := by simpa using hz0
  obtain ⟨l, hl1, hl2⟩ := prg_cells hs h1
  exact ⟨z0, v1, l, rfl, hl1, hl2⟩
theorem parts_flat {α : Type} (m : Nat) : ∀ (n : Nat) (l : List α) (f : Nat → List α), l.length = n * m → (∀ i, i < n → (l.drop (i * m)).take m = f i) → l = (List.range n).flatMap f
  | 0, l, f, h, _ => by
    rw [Nat.zero_mul] at h
    obtain rfl := List.eq_nil_of_length_eq_zero h
    rfl
  | n + 1, l, f, h, hf => by
    rw [Nat.succ_mul] at h
    have h1 := parts_flat m n (l.take (n * m)) f (by rw [List.length_take]; omega) fun i hi => by
      have e : i * m + m ≤ n * m := by
        have := Nat.mul_le_mul_right m (show i + 1 ≤ n by omega)
        rwa [Nat.succ_mul] at this
      rw [List.drop_take, List.take_take, Nat.min_eq_left (by omega)]
      exact hf i (by omega)
    rw [List.range_succ, List.flatMap_append, ← h1]
    have h2 := hf n (by omega)
    rw [List.take_of_length_le (by rw [List.length_drop]; omega)] at h2
    simp only [List.flatMap_cons, List.flatMap_nil, List.append_nil, ← h2]
    exact (List.take_append_drop _ _).symm
theorem three_of {α : Type} : ∀ (xs : List α), xs.length = 3 → ∃ a b c, xs = [a, b, c]
  | [a, b, c], _ => ⟨a, b, c, rfl⟩
theorem one_of {α : Type} : ∀ (xs : List α), xs.length = 1 → ∃ a, xs = [a]
  | [a], _ => ⟨a, rfl⟩
theorem nat_of_u32 {n : Int} (hw : (Lit.int .u32 n).wf = true) : ∃ x : Nat, n = (x : Int) ∧ x < 4294967296 := by
  have hb := bounds_u32 hw
  exact ⟨n.toNat, by omega, by omega⟩
set_option maxRecDepth 100000 in
theorem rg_cells {H : Type} {enc : TypeId × Value → H} {W : World} {fuel : Nat} {cs : List Value} {x : DataW H × List MemPlace} (h : DataW.trod enc Tryd.prog W 0 (fun _ => true) true fuel 40 cs = some x) :
    ∃ r : Rg, cs = r.cells ∧ r.Ok := by
  obtain ⟨xs, k, hk, hxy, hl, hxl, hf⟩ := DataW.trod_struct Tryd.underlying40 h
  obtain ⟨v0, v1, v2, rfl⟩ := three_of cs (hl.trans (by kernel_rfl))
  obtain ⟨x0, x1, x2, rfl⟩ := three_of xs hxl
  have c4 : Tryd.prog.cellsOf 4 = 1 := by kernel_rfl
  have c36 : Tryd.prog.cellsOf 36 = 1 := by kernel_rfl
  have h0 : DataW.trod enc Tryd.prog W 0 (fun _ => true) true k 4 (([v0, v1, v2].drop 0).take (Tryd.prog.cellsOf 4)) = some x0 := hf 0 _ rfl
  have h1 : DataW.trod enc Tryd.prog W 0 (fun _ => true) true k 36 (([v0, v1, v2].drop 1).take (Tryd.prog.cellsOf 36)) = some x1 := hf 1 _ rfl
  have h2 : DataW.trod enc Tryd.prog W 0 (fun _ => true) true k 36 (([v0, v1, v2].drop 2).take (Tryd.prog.cellsOf 36)) = some x2 := hf 2 _ rfl
  rw [c4] at h0
  rw [c36] at h1 h2
  obtain ⟨b, hb0, _⟩ := DataW.trod_bool Tryd.underlying4 h0
  obtain ⟨z1, hz1, _, hw1⟩ := DataW.trod_int Tryd.underlying36 h1
  obtain ⟨z2, hz2, _, hw2⟩ := DataW.trod_int Tryd.underlying36 h2
  obtain rfl : v0 = .bool b := by simpa using hb0
  obtain rfl : v1 = .int .u32 z1 := by simpa using hz1
  obtain rfl : v2 = .int .u32 z2 := by simpa using hz2
  obtain ⟨n1, rfl, b1⟩ := nat_of_u32 hw1
  obtain ⟨n2, rfl, b2⟩ := nat_of_u32 hw2
  exact ⟨⟨b, n1, n2⟩, rfl, b1, b2⟩
set_option maxRecDepth 100000 in
theorem kn_cells {H : Type} {enc : TypeId × Value → H} {W : World} {fuel : Nat} {cs : List Value} {x : DataW H × List MemPlace} (h : DataW.trod enc Tryd.prog W 0 (fun _ => true) true fuel 43 cs = some x) :
    ∃ k : Kn, cs = k.cells ∧ KOk k := by
  obtain ⟨xs, k, hk, hxy, hl, hxl, hf⟩ := DataW.trod_struct Tryd.underlying43 h
  have hl31 : cs.length = 31 := hl.trans (by kernel_rfl)
  obtain ⟨x0, x1, rfl⟩ := two_of xs hxl
  have c4 : Tryd.prog.cellsOf 4 = 1 := by kernel_rfl
  have c41 : Tryd.prog.cellsOf 41 = 30 := by kernel_rfl
  have c40 : Tryd.prog.cellsOf 40 = 3 := by kernel_rfl
  have h0 : DataW.trod enc Tryd.prog W 0 (fun _ => true) true k 4 ((cs.drop 0).take (Tryd.prog.cellsOf 4)) = some x0 := hf 0 _ rfl
  have h1 : DataW.trod enc Tryd.prog W 0 (fun _ => true) true k 41 ((cs.drop 1).take (Tryd.prog.cellsOf 41)) = some x1 := hf 1 _ rfl
  rw [c4] at h0
  rw [c41] at h1
  obtain ⟨b, hb0, _⟩ := DataW.trod_bool Tryd.underlying4 h0
  obtain ⟨ys, m, hm, hxy1, hl1, hn, hel⟩ := DataW.trod_array Tryd.underlying41 h1
  rw [c40] at hel
  have each : ∀ i, i < 10 → ∃ r : Rg, ((((cs.drop 1).take 30).drop (i * 3)).take 3) = r.cells ∧ r.Ok := fun i hi => by
    have := hel i hi
    rw [List.getElem?_eq_getElem (by omega)] at this
    exact rg_cells this
  let R : Nat → Rg := fun i => if hi : i < 10 then (each i hi).choose else noR
  have hR : ∀ i, i < 10 → ((((cs.drop 1).take 30).drop (i * 3)).take 3) = (R i).cells ∧ (R i).Ok := fun i hi => by
    have e2 : R i = (each i hi).choose := dif_pos hi
    rw [e2]
    exact (each i hi).choose_spec
  have e1 := parts_flat 3 10 ((cs.drop 1).take 30) (fun i => (R i).cells) (by rw [List.length_take, List.length_drop, hl31]; rfl) (fun i hi => (hR i hi).1)
  refine ⟨⟨b, R⟩, ?_, fun n hn => (hR n hn).2⟩
  have e3 : cs = (cs.drop 0).take 1 ++ (cs.drop 1).take 30 := by
    rw [List.drop_zero, List.take_of_length_le (l := cs.drop 1) (by rw [List.length_drop]; omega)]
    exact (List.take_append_drop 1 cs).symm
  rw [e3, hb0, e1]
  rfl
/-- Words in a row. -/
theorem words_cells {H : Type} {enc : TypeId × Value → H} {W : World} {fuel t n : Nat} {cs : List Value} {x : DataW H × List MemPlace} (ht : Tryd.prog.underlying t = some (.array n 36)) (h : DataW.trod enc Tryd.prog W 0 (fun _ => true) true fuel t cs = some x) (hc : Tryd.prog.cellsOf t = n) :
    ∃ U : Nat → Nat, cs = (List.range n).map (fun i => .int .u32 (U i : Int)) ∧ ∀ i, i < n → U i < 4294967296 := by
  have c36 : Tryd.prog.cellsOf 36 = 1 := by kernel_rfl
  obtain ⟨ys, m, hm, hxy1, hl1, hn, hel⟩ := DataW.trod_array ht h
  rw [c36] at hel
  have each : ∀ i, i < n → ∃ u : Nat, ((cs.drop (i * 1)).take 1) = [.int .u32 (u : Int)] ∧ u < 4294967296 := fun i hi => by
    have := hel i hi
    rw [List.getElem?_eq_getElem (by omega)] at this
    obtain ⟨z, hz, _, hw⟩ := DataW.trod_int Tryd.underlying36 this
    obtain ⟨u, rfl, hb⟩ := nat_of_u32 hw
    exact ⟨u, hz, hb⟩
  let U : Nat → Nat := fun i => if hi : i < n then (each i hi).choose else 0
  have hU : ∀ i, i < n → ((cs.drop (i * 1)).take 1) = [.int .u32 (U i : Int)] ∧ U i < 4294967296 := fun i hi => by
    have e2 : U i = (each i hi).choose := dif_pos hi
    rw [e2]
    exact (each i hi).choose_spec
  have e1 := parts_flat 1 n cs (fun i => [.int .u32 (U i : Int)]) (by rw [hl1, hc, Nat.mul_one]) (fun i hi => (hU i hi).1)
  refine ⟨U, ?_, fun i hi => (hU i hi).2⟩
  rw [e1]
  induction List.range n with
  | nil => rfl
  | cons a l ih => rw [List.flatMap_cons, ih]; rfl
theorem arr_of {cs : Array Value} {l : List Value} (h : cs.toList = l) : cs = l.toArray := by rw [← h]
set_option maxRecDepth 100000 in
/-- An instruction that comes in. -/
theorem ins_of {H : Type} {enc : TypeId × Value → H} {W : World} {base : Nat} {r : Reach} {v : Value} {d : DataW H} {ps : List MemPlace} (hv : Value.okWide Tryd.prog W r base 38 v) (h : DataW.Trod enc Tryd.prog W 0 (fun _ => true) true 38 v d ps) :
    ∃ i : Ins, v = .agg i.a ∧ i.imm < 4294967296 := by
  unfold Value.okWide at hv
  rw [Tryd.underlying38] at hv
  obtain ⟨cs, rfl, hsz, _⟩ := hv
  obtain ⟨fuel, hf⟩ := h
  obtain ⟨i, hi, hb⟩ := ins_cells hf
  exact ⟨i, congrArg _ (arr_of hi), hb⟩
set_option maxRecDepth 100000 in
/-- A range that comes in. -/
theorem rg_of {H : Type} {enc : TypeId × Value → H} {W : World} {base : Nat} {r : Reach} {v : Value} {d : DataW H} {ps : List MemPlace} (hv : Value.okWide Tryd.prog W r base 40 v) (h : DataW.Trod enc Tryd.prog W 0 (fun _ => true) true 40 v d ps) :
    ∃ q : Rg, v = q.v ∧ q.Ok := by
  unfold Value.okWide at hv
  rw [Tryd.underlying40] at hv
  obtain ⟨cs, rfl, hsz, _⟩ := hv
  obtain ⟨fuel, hf⟩ := h
  obtain ⟨q, hi, hb⟩ := rg_cells hf
  exact ⟨q, congrArg _ (arr_of hi), hb⟩
set_option maxRecDepth 100000 in
/-- What is known, that comes in. -/
theorem kn_of {H : Type} {enc : TypeId × Value → H} {W : World} {base : Nat} {r : Reach} {v : Value} {d : DataW H} {ps : List MemPlace} (hv : Value.okWide Tryd.prog W r base 43 v) (h : DataW.Trod enc Tryd.prog W 0 (fun _ => true) true 43 v d ps) :
    ∃ k : Kn, v = .agg k.a ∧ KOk k := by
  unfold Value.okWide at hv
  rw [Tryd.underlying43] at hv
  obtain ⟨cs, rfl, hsz, _⟩ := hv
  obtain ⟨fuel, hf⟩ := h
  obtain ⟨k, hi, hb⟩ := kn_cells hf
  exact ⟨k, congrArg _ (arr_of hi), hb⟩
set_option maxRecDepth 100000 in
/-- Two words that come in. -/
theorem pair_of32 {H : Type} {enc : TypeId × Value → H} {W : World} {base : Nat} {r : Reach} {v : Value} {d : DataW H} {ps : List MemPlace} (hv : Value.okWide Tryd.prog W r base 52 v) (h : DataW.Trod enc Tryd.prog W 0 (fun _ => true) true 52 v d ps) :
    ∃ a b : Nat, v = .agg #[.int .u32 (a : Int), .int .u32 (b : Int)] ∧ a < 4294967296 ∧ b < 4294967296 := by
  unfold Value.okWide at hv
  rw [Tryd.underlying52] at hv
  obtain ⟨cs, rfl, hsz, _⟩ := hv
  obtain ⟨fuel, hf⟩ := h
  obtain ⟨U, hi, hb⟩ := words_cells Tryd.underlying52 hf (by kernel_rfl)
  exact ⟨U 0, U 1, congrArg _ (arr_of hi), hb 0 (by decide), hb 1 (by decide)⟩
end Go.Proofs.YtodkehpldlmgaaaDoor
