/- Rows of rows of bytes: what an append leaves, and where it lies. -/
import Derived.Test.YtkcngkkjlnadiaaDoorI6
import Derived.Test.YtkcngkkjlnadiaaDoorI2
namespace Go.Proofs.YtkcngkkjlnadiaaDoor
open Go.RowKit

def Loc (w : World) (v v' : Value) : Prop := ∀ k, v'.ownBlock = some k → v.ownBlock = some k ∨ w.heap.size ≤ k
theorem append_loc {P : Program} {t e : TypeId} (ty : TypeId) {i : TypeInfo} {z : Value} (ht : P.underlying t = some (.slice e)) (hi : P.info? e = some i) (hz : i.zero = some z) (hs1 : i.size = 1) (hb1 : i.bytes = 1) (w : World) (v : Value) (n base : Nat) (xs : List Value) (hown : w.ownsRow base e 1 v n xs)
    (a : Addr) (m c : Nat) (news : List Value) (hl : news.length = m) (hnews : ∀ j u, news[j]? = some u → w.cell? (a.add j) = some u) (h1 : ∀ u ∈ news, u.oneCell' = true) (hsm : n + m ≤ 100000000000000) {v' : Value} {w' : World}
    (hr : (Builtin.append_ #[t, t] ty #[v, .slice (some a) m c]).run P w = .ok v' w') : Loc w v v' := by
  intro k hk
  rcases hown.2 with ⟨rfl, rfl⟩ | ⟨g, cap, cur, rfl, _, hg, hnc, hcm, hcs, htake⟩
  · by_cases hm : m = 0
    · subst hm
      have hn : news = [] := List.eq_nil_of_length_eq_zero hl
      subst hn
      have e1 : (Builtin.append_ #[t, t] ty #[.slice none 0 0, .slice (some a) 0 c]).run P w = .ok (.slice none 0 0) w := by
        simp [Builtin.append_, run_underlying ht, sizeOf, typeInfo, hi, Builtin.lenOf, Builtin.firstCells, loadCells, loadCellsFrom]
      rw [e1] at hr
      cases hr
      exact .inl hk
    · rw [run_append_nil (P := P) w t ty e i z ht hi hz a m c news (by rw [hs1]; omega) hnews (by omega) (by omega) (by rw [hb1]; omega)] at hr
      cases hr
      simp [Value.ownBlock] at hk
      exact .inr (by omega)
  · by_cases hroom : n + m ≤ cap
    · rw [run_append_room (P := P) w t ty e i ht hi g n cap cur hg a m c news (by rw [hs1]; omega) hnews h1 hroom (by rw [hs1, hcs]; omega)] at hr
      cases hr
      exact .inl hk
    · rw [run_append_grow (P := P) w t ty e i z ht hi hz ⟨g, 0, none⟩ n cap xs (by rw [hs1]; exact hown.1) (hown.cells (g := g) rfl) a m c news (by rw [hs1]; omega) hnews (by omega) (by omega) (growslice_fits (by omega) (by rw [hb1]; omega))] at hr
      cases hr
      simp [Value.ownBlock] at hk
      exact .inr (by omega)
theorem run_append_loc {P : Program} {t : TypeId} (ty : TypeId) (h5 : (P.info? 5).map (fun i => (i.zero, i.size, i.bytes)) = some (some (.int .u8 0), 1, 1))
    (ht : P.underlying t = some (.slice 5)) (base : Nat) (w : World) (v xv : Value) (d x : List UInt8) (hown : Own base w v d) (hx : Bytes w xv x) (hsm : d.length + x.length ≤ 100000000000000) {v' : Value} {w' : World}
    (hr : (Builtin.append_ #[t, t] ty #[v, xv]).run P w = .ok v' w') : Loc w v v' := by
  obtain ⟨i0, hi, hz0, hz1, hz2⟩ := info_parts h5
  obtain ⟨a, cap, db, o, rfl, hcap, ha, hin, hlt⟩ := hx
  cases a with
  | some a0 =>
    have hcells : ∀ j u, (x.map bc)[j]? = some u → w.cell? (a0.add j) = some u := fun j u hu => by
      have hj : j < x.length := by have := (List.getElem?_eq_some_iff.1 hu).1; simpa using this
      obtain rfl := Option.some.inj (ha (by intro e; simp [e] at hj))
      rw [Addr.add_mid, hin j hj, ← hu]; simp [hj, bc]
    exact append_loc ty ht hi hz0 hz1 hz2 w v d.length base (d.map bc) hown a0 x.length cap (x.map bc) (by simp) hcells (fun u hu => by simp at hu; obtain ⟨y, _, rfl⟩ := hu; rfl) hsm hr
  | none =>
    have hx0 : x = [] := by
      cases x with
      | nil => rfl
      | cons b l => cases ha (by simp)
    subst hx0
    have e : (Builtin.append_ #[t, t] ty #[v, .slice none ([] : List UInt8).length cap]).run P w = .ok v w := by
      rcases hown.2 with ⟨rfl, h0⟩ | ⟨g, c, cur, rfl, _, hg, hnc, _⟩
      · simp [Builtin.append_, run_underlying ht, sizeOf, typeInfo, hi, Builtin.lenOf, Builtin.firstCells]
      · simp [Builtin.append_, run_underlying ht, sizeOf, typeInfo, hi, Builtin.lenOf, Builtin.firstCells, hnc, storeCells]
    rw [e] at hr
    cases hr
    exact fun k hk => .inl hk
theorem wpList_append_loc {P : Program} {w : World} {ops : Array Oper} {rest : List Oper} {o : Oper} {a : Act} {Q : Exit → Act → World → Prop} (hw : Region.wanted o (yielded ops a.tmps) = true) (s y : Operand) (t : TypeId)
    (ho : o.op = .call { callee := .builtin .append, args := #[s, y], argTypes := #[t, t] }) (h5 : (P.info? 5).map (fun i => (i.zero, i.size, i.bytes)) = some (some (.int .u8 0), 1, 1))
    (ht : P.underlying t = some (.slice 5)) (base : Nat) (v xv : Value) (d x : List UInt8) (hs : a.eval s = v) (hy : a.eval y = xv) (hown : Own base w v d) (hx : Bytes w xv x) (hsm : d.length + x.length ≤ 100000000000000) (hbase : base ≤ w.heap.size)
    (h : ∀ v' w', Own base w' v' (d ++ x) → w.grownBy w' v.ownBlock → Loc w v v' → wpList P ops Q rest (a.put o.dst v') w') : wpList P ops Q (o :: rest) a w := by
  obtain ⟨v', w', h1, h2, h3, h4⟩ := run_append_bytes o.type h5 ht base w v xv d x hown hx hsm hbase
  have hl := run_append_loc o.type h5 ht base w v xv d x hown hx hsm h1
  unfold wpList
  rw [if_pos hw]
  refine .inl ?_
  unfold Oper.wp execOp
  simp only [ho, resolve, invoke, builtin, Sem.run_bind, Sem.run_pure, Result.andThen_ok, List.map_toArray, List.map_cons, List.map_nil, hs, hy, h1]
  exact h v' w' h2 h3 hl
/-- Rows of unlike types lie apart. -/
theorem own_apart {w : World} {b1 b2 e1 e2 s1 s2 n1 n2 : Nat} {v1 v2 : Value} {x1 x2 : List Value} (h1 : w.ownsRow b1 e1 s1 v1 n1 x1) (h2 : w.ownsRow b2 e2 s2 v2 n2 x2) (he : e1 ≠ e2) : v1.ownBlock = none ∨ v1.ownBlock ≠ v2.ownBlock := by
  rcases h1.2 with ⟨rfl, _⟩ | ⟨g, c, cur, rfl, _, hg, _⟩
  · exact .inl rfl
  · right
    rcases h2.2 with ⟨rfl, _⟩ | ⟨g', c', cur', rfl, _, hg', _⟩
    · simp [Value.ownBlock]
    · intro e
      simp only [Value.ownBlock, Option.some.injEq] at e
      subst e
      rw [hg] at hg'
      simp only [Option.some.injEq, Obj.cells.injEq] at hg'
      exact he hg'.2.1
/-- The rows of rows of bytes that came in. -/
def Rws (w : World) (v : Value) (ds : List (List UInt8)) : Prop :=
  ∃ a cap pb po, v = .slice a ds.length cap ∧ (ds ≠ [] → a = some ⟨pb, po, none⟩) ∧ (∀ i, i < ds.length → ∃ sv, w.cell? ⟨pb, po + i, none⟩ = some sv ∧ Bytes w sv (ds[i]?.getD [])) ∧ pb < w.heap.size
/-- A row of copies: each a row of its own, of bytes. -/
structure Cps (B : Nat) (w : World) (mv : Value) (k : Nat) (ds : List (List UInt8)) (xs : List Value) : Prop where
  own : w.ownsRow B 22 1 mv k xs
  each : ∀ j, j < k → ∃ sv, xs[j]? = some sv ∧ Own B w sv (ds[j]?.getD [])
theorem Cps.kept {B : Nat} {w w' : World} {mv : Value} {k : Nat} {ds : List (List UInt8)} {xs : List Value} {row : Option Nat} (h : Cps B w mv k ds xs) (hg : w.grownBy w' row) (hm : mv.ownBlock = none ∨ mv.ownBlock ≠ row)
    (hs : ∀ j sv, j < k → xs[j]? = some sv → sv.ownBlock = none ∨ sv.ownBlock ≠ row) : Cps B w' mv k ds xs :=
  ⟨h.own.kept hg hm, fun j hj => by obtain ⟨sv, h1, h2⟩ := h.each j hj; exact ⟨sv, h1, World.ownsRow.kept h2 hg (hs j sv hj h1)⟩⟩
theorem Cps.below {B : Nat} {w w' : World} {mv : Value} {k : Nat} {ds : List (List UInt8)} {xs : List Value} (h : Cps B w mv k ds xs) (hb : Below w.heap.size w w') : Cps B w' mv k ds xs :=
  ⟨ownsRow_below h.own hb, fun j hj => by obtain ⟨sv, h1, h2⟩ := h.each j hj; exact ⟨sv, h1, h2.below hb⟩⟩
theorem Cps.parts {B : Nat} {w : World} {mv : Value} {ds : List (List UInt8)} {xs : List Value} (h : Cps B w mv ds.length ds xs) (h0 : 0 < w.heap.size) (hf : ds.flatten.length < 10000000000) (hl : ds.length < 10000000000) : Parts w mv ds := by
  rcases h.own.2 with ⟨rfl, e⟩ | ⟨g, c, cur, rfl, _, hg, _⟩
  · obtain rfl : ds = [] := List.eq_nil_of_length_eq_zero e
    exact ⟨none, 0, 0, 0, rfl, fun h => absurd rfl h, fun i hi => absurd hi (by simp), h0, hf, hl⟩
  · refine ⟨_, c, g, 0, rfl, fun _ => rfl, fun i hi => ?_, (h.own.lt g rfl).2, hf, hl⟩
    obtain ⟨sv, h1, h2⟩ := h.each i hi
    have := h.own.cells (g := g) rfl i sv h1
    rw [Addr.add_mid] at this
    exact ⟨sv, this, h2.bytes h0⟩
theorem info22 : (Tryd.prog.info? 22).map (fun i => (i.zero, i.size, i.bytes)) = some (some (.slice none 0 0), 1, 24) := by kernel_rfl
end Go.Proofs.YtkcngkkjlnadiaaDoor
