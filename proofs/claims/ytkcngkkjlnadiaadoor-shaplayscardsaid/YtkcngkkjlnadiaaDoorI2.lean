/- The law ShaSums. -/
import Derived.Test.YtkcngkkjlnadiaaDoorI1
import Derived.Test.YtkcngkkjlnadiaaDoorD3
namespace Go.Proofs.YtkcngkkjlnadiaaDoor
open Go.RowKit

theorem foldl_push' (ns : List UInt8) : ∀ s : ByteArray, (ns.map (fun b => bv b)).foldl (fun r n => r.push (UInt8.ofNat n.toNat)) s = ⟨s.data ++ ns.toArray⟩ := by
  induction ns with
  | nil => intro s; simp
  | cons b ns ih =>
    intro s
    rw [List.map_cons, List.foldl_cons, ih]
    simp [bv, ByteArray.push]
/-- Bytes as a text. -/
theorem bytes_string (W : World) (v : Value) (l : List UInt8) (h : Bytes W v l) : (convert 22 9 v).run Tryd.prog W = .ok (.string ⟨l.toArray⟩) W := by
  obtain ⟨a, cap, db, o, rfl, hcap, ha, hin, hlt⟩ := h
  rw [run_convert_bytes_string W 22 9 5 _ _ _ Tryd.underlying22 Tryd.underlying5 Tryd.underlying9]
  cases a with
  | none =>
    have hx0 : l = [] := by
      cases l with
      | nil => rfl
      | cons b l => cases ha (by simp)
    subst hx0
    simp [Conv.bytesToString]
    rfl
  | some a0 =>
    have hld := run_loadCells_list (P := Tryd.prog) (w := W) a0 ((l.map fun b => bv b).map (Value.int .u8)) (fun j v hv => by
      have hj : j < l.length := by
        have := (List.getElem?_eq_some_iff.1 hv).1
        simpa using this
      obtain rfl := Option.some.inj (ha (by intro e; simp [e] at hj))
      rw [Addr.add_mid, hin j hj, ← hv]
      simp [hj])
    have e : ((l.map fun b => bv b).map (Value.int .u8)).length = l.length := by simp
    rw [e] at hld
    rw [run_bytesToString W a0 _ _ (l.map fun b => bv b) hld, foldl_push']
    simp

set_option maxRecDepth 10000 in
set_option maxHeartbeats 1000000 in
theorem sums_walk (v : Value) (l : List UInt8) (w : World) (hv : Bytes w v l) (hg0 : Glob w) :
    Calls Tryd.prog 3 #[v] w fun e w' => e = .returned (.bool true) ∧ Below w.heap.size w w' := by
  have hgs := hg0.size
  obtain ⟨a, cap, db, o, rfl, _⟩ := id hv
  by_cases h1 : l.length ≤ 1000
  · have i1 : ¬ (1000 : Int) < (l.length : Int) := by omega
    have H : Hid (l.length ≤ 1000) := h1
    clear h1
    go_enter Tryd.func3, Tryd.ntmps3
    go_wp2_with (first
      | (refine wpList_append_bytes rfl _ _ 22 rfl info5 Tryd.underlying22 w.heap.size _ _ [] l rfl rfl (Own.made _ w (Nat.le_refl _)) (hv.below ((Below.refl _ _).alloc (Nat.le_refl _) _)) (by have := H.out; simp; omega) (by simp) ?_; intro v1 w1 ho1 hg1)
      | (refine wpList_append_bytes rfl _ _ 22 rfl info5 Tryd.underlying22 w.heap.size _ _ l [77] rfl rfl (ho1.alloc _) (bytes_one w1 77) (by have := H.out; simp; omega) (by have := hg1.size; simp at this ⊢; omega) ?_; intro v2 w2 ho2 hg2; obtain ⟨g, c, rfl, hgb, hgl, hlc, hin⟩ := Own.at_ ho2 (by simp); have c1 : l.length ≤ c := (by simp at hlc; omega); have c2 : (l.length : Int) ≤ c := (by omega); have c3 : ¬ c = 0 := (by simp at hlc; omega)))
    have hB1 : Below w.heap.size w w1 := ((Below.refl _ _).alloc (Nat.le_refl _) _).trans (grown_keeps (Own.made _ w (Nat.le_refl _)) hg1 (by simp))
    have hB2 : Below w.heap.size w w2 := (hB1.alloc hB1.size _).trans (grown_keeps (ho1.alloc _) hg2 (by have := hB1.size; simp; omega))
    have hby : Bytes w2 (.slice (some ⟨g, 0, none⟩) l.length c) l := ⟨_, c, g, 0, rfl, c1, fun _ => rfl, fun j hj => by have := hin j (by simp; omega); rwa [List.getElem?_append_left hj] at this, hgl⟩
    have c77 : w2.cell? ⟨g, l.length, none⟩ = some (.int .u8 77) := by
      have := hin l.length (by simp)
      rw [Nat.zero_add, List.getElem?_append_right (Nat.le_refl _), Nat.sub_self] at this
      exact this
    have hv2 := hv.below hB2
    clear hg1 hg2 ho1 ho2 hin hB1 hv
    refine (sum1_any _ l w2 hby (hg0.below hB2 hgs) (by have := H.out; omega)).mono ?_
    rintro e W2 ⟨rfl, hB3⟩
    have hBa : Below w.heap.size w W2 := hB2.trans (hB3.mono hB2.size)
    have hv3 := hv2.below hB3
    go_wp2_with fail
    refine (refsum_any _ l W2 hv3 (by have := H.out; omega)).mono ?_
    rintro e W3 ⟨rfl, hB4⟩
    have hBb : Below w.heap.size w W3 := hBa.trans (hB4.mono hBa.size)
    have q := eq_same (shaL l) (shaL_length l)
    have hs1 := bytes_string W3 _ l ((hby.below hB3).below hB4)
    have hs2 := bytes_string W3 _ l (hv3.below hB4)
    have c77' : W3.cell? ⟨g, l.length, none⟩ = some (.int .u8 77) := (hB4.cell (p := ⟨g, l.length, none⟩) (Nat.lt_of_lt_of_le hgl hB3.size)).trans ((hB3.cell (p := ⟨g, l.length, none⟩) hgl).trans c77)
    obtain ⟨u, hu⟩ : ∃ u : Nat, u = l.length + 1 := ⟨_, rfl⟩
    have u1 : IntKind.i64.wrap ((l.length : Int) + 1) = (u : Int) := by rw [IntKind.wrap_i64]; have := H.out; omega
    have u2 : (l.length : Int) + 1 = (u : Int) := by omega
    have u3 : (u : Int) ≤ c := by simp at hlc; omega
    have u4 : (l.length : Int) < u := by omega
    have u5 : u ≤ c := by simp at hlc; omega
    clear hB3 hB4 hB2 hBa hby hv2 hv3 c77 hu hlc
    go_wp2_with (first
      | refine wpList_convert_run (by rfl) 22 9 _ rfl _ _ rfl hs1 ?_
      | refine wpList_convert_run (by rfl) 22 9 _ rfl _ _ rfl hs2 ?_)
    refine (works_any _ (hg0.below hBb hgs)).mono ?_
    rintro e W4 ⟨rfl, hB4⟩
    go_wp2_with fail
    go_ret
    exact ⟨rfl, hBb.trans (hB4.mono hBb.size)⟩
  · have i1 : (1000 : Int) < (l.length : Int) := by omega
    go_enter Tryd.func3, Tryd.ntmps3
    go_wp2_with fail
    refine (works_any _ hg0).mono ?_
    rintro e W ⟨rfl, hB⟩
    go_wp2_with fail
    go_ret
    exact ⟨rfl, hB⟩
end Go.Proofs.YtkcngkkjlnadiaaDoor
