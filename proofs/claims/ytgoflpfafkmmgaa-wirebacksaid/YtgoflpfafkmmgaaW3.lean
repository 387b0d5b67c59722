/- A writer: Raw that has no room, All, and all of none. -/
import Derived.Test.YtgoflpfafkmmgaaW2
namespace Go.Proofs.Ytgoflpfafkmmgaa
open Go.RowKit

set_option maxRecDepth 10000 in
set_option maxHeartbeats 1000000 in
theorem raw_long (p : Nat) (v lv : Value) (bs : List UInt8) (ds : List (List UInt8)) (w : World) (hW : Wr w p v bs) (hl : Parts (WS p v) w lv ds) (hfit : ¬ bs.length + ds.flatten.length ≤ 1048576) (hd : ∀ d ∈ ds, d.length ≤ 1000000000) :
    Calls Try.prog 21 #[.pointer (some ⟨p, 0, none⟩), lv] w fun e w' => e = .returned (.int .i64 3) ∧ w' = w := by
  obtain ⟨a, cap, pb, po, rfl, ha, hcell, hpb, hSpb, hnum⟩ := hl
  have c1 := hW.has.cell 1
  have c0 := hW.has.cell 0
  have hbl := hW.len
  obtain ⟨va, vc, rfl⟩ := hW.own.slice
  simp at c0 c1
  go_enter Try.func21, Try.ntmps21
  go_wp2_with (first | (go_at_call 40; refine (wnone_any _ _ c1).mono ?_; rintro e w' ⟨rfl, hw⟩; obtain rfl := hw.symm))
  clear hw
  have Hcell : Hid (∀ i, i < ds.length → ∃ sv, w.cell? ⟨pb, po + i, none⟩ = some sv ∧ BytesAp (WS p (.slice va bs.length vc)) w sv (ds[i]?.getD [])) := hcell
  have Hd : Hid (∀ d ∈ ds, d.length ≤ 1000000000) := hd
  have Hfit : Hid (¬ bs.length + ds.flatten.length ≤ 1048576) := hfit
  clear hcell hd hfit
  go_loop [5, 20] (fun r i => ∃ k : Nat, k ≤ ds.length ∧ i = .int .i64 k ∧ bs.length + (ds.take k).flatten.length ≤ 1048576 ∧ r = .int .i64 (1048576 - bs.length - ((ds.take k).flatten.length : Int))) (fun _ i => ds.length - (intOf i).toNat)
  case atStart => exact ⟨0, by omega, rfl, by simpa using hbl, by simp⟩
  case round =>
    obtain ⟨k, hk, rfl, hs, rfl⟩ := hrel
    by_cases hlt : k < ds.length
    · obtain rfl := ha (by intro e; simp [e] at hlt)
      obtain ⟨sv, hsv, hby⟩ := Hcell.out k hlt
      obtain ⟨a2, c2, db2, o2, rfl, _⟩ := hby
      have hml : (ds[k]?.getD []).length ≤ 1000000000 := Hd.out _ (by rw [List.getElem?_eq_getElem hlt]; exact List.getElem_mem _)
      have Hf : Hid ((ds.take (k + 1)).flatten.length = (ds.take k).flatten.length + (ds[k]?.getD []).length) := by show _ = _; rw [flatten_take ds k hlt, List.length_append]
      generalize (ds.take k).flatten.length = s at *
      generalize (ds[k]?.getD []).length = m at *
      have i1 : (k : Int) < ds.length := by omega
      by_cases hgo : m ≤ 1048576 - bs.length - s
      · go_wp2_with fail
        go_round
        case rel => exact ⟨k + 1, by omega, by go_num, by rw [Hf.out]; omega, by rw [Hf.out]; congr 1; omega⟩
        case measure => simp [intOf]; omega
      · go_wp2_with fail
        go_ret
        exact ⟨rfl, rfl⟩
    · obtain rfl : k = ds.length := by omega
      rw [List.take_length] at hs
      exact absurd hs Hfit.out

set_option maxHeartbeats 400000 in
theorem raw_nil (a : Option Addr) (n c : Nat) (w : World) :
    Calls Try.prog 21 #[.pointer none, .slice a n c] w fun e w' => e = .returned (.int .i64 1) ∧ w' = w := by
  go_enter Try.func21, Try.ntmps21
  go_wp2_with (first | (go_at_call 40; refine (wnone_nil _).mono ?_; rintro e w' ⟨rfl, hw⟩; obtain rfl := hw.symm))
  go_ret
  exact ⟨rfl, rfl⟩

set_option maxHeartbeats 400000 in
theorem all_any (p : Nat) (v : Value) (bs : List UInt8) (w : World) (hW : Wr w p v bs) :
    Calls Try.prog 15 #[.pointer (some ⟨p, 0, none⟩)] w fun e w' => ∃ x, e = .returned x ∧ New w w' x bs := by
  have c1 := hW.has.cell 1
  have c0 := hW.has.cell 0
  have hb := hW.own.bytes (Nat.lt_of_le_of_lt (Nat.zero_le _) hW.has.lt)
  have hl := hW.len
  obtain ⟨va, vc, rfl⟩ := hW.own.slice
  simp at c0 c1
  have HB : Hid (Bytes w (.slice va bs.length vc) bs) := hb
  clear hb
  go_enter Try.func15, Try.ntmps15
  go_wp2_with (first | (go_at_call 40; refine (wnone_any _ _ c1).mono ?_; rintro e w' ⟨rfl, hw⟩; obtain rfl := hw.symm) | (refine wpList_append_bytes _ rfl _ _ 27 27 rfl info5 Try.underlying27 Try.underlying27 (.slice none 0 0) _ [] bs rfl rfl (Own.nil w) HB.out (by simp; omega) ?_; intro v2 w2 hown2 hgr hloc hnil; clear hnil))
  go_ret
  refine ⟨_, rfl, hown2, fun k hk => ?_, ⟨hgr.os, hgr.tape, hgr.output, hgr.size, fun k hk => hgr.block k hk (by simp [Value.ownBlock])⟩⟩
  rcases hloc k hk with h | h
  · cases h
  · exact h
set_option maxHeartbeats 400000 in
theorem all_nil (w : World) :
    Calls Try.prog 15 #[.pointer none] w fun e w' => e = .returned (.slice none 0 0) ∧ w' = w := by
  go_enter Try.func15, Try.ntmps15
  go_wp2_with (first | (go_at_call 40; refine (wnone_nil _).mono ?_; rintro e w' ⟨rfl, hw⟩; obtain rfl := hw.symm))
  go_ret
  exact ⟨rfl, rfl⟩

theorem parts1 {S : Nat → Prop} (w : World) (v : Value) {x : List UInt8} (h : BytesAp S w v x) (hS : ∀ k, S k → k < w.heap.size) {g : Nat} (hg : g = w.heap.size := by simp) : Parts S (w.alloc (.cells #[v] 27)) (.slice (some ⟨g, 0, none⟩) 1 1) [x] := by
  subst hg
  have hh := has_new w #[v] 27 w.heap.size rfl
  have hB : Fr (fun _ => False) w (w.alloc (.cells #[v] 27)) := Fr.of_below ((Below.refl _ _).alloc (Nat.le_refl _) _)
  refine ⟨_, 1, w.heap.size, 0, rfl, fun _ => rfl, fun i hi => ?_, by simp, fun e => by have := hS _ e; omega, by simp⟩
  obtain rfl : i = 0 := by simpa using hi
  exact ⟨v, hh.cell 0, h.fr hB (fun _ _ h => h.elim)⟩
theorem parts2 {S : Nat → Prop} (w : World) (v u : Value) {x y : List UInt8} (h : BytesAp S w v x) (h2 : BytesAp S w u y) (hS : ∀ k, S k → k < w.heap.size) {g : Nat} (hg : g = w.heap.size := by simp) : Parts S (w.alloc (.cells #[v, u] 27)) (.slice (some ⟨g, 0, none⟩) 2 2) [x, y] := by
  subst hg
  have hh := has_new w #[v, u] 27 w.heap.size rfl
  have hB : Fr (fun _ => False) w (w.alloc (.cells #[v, u] 27)) := Fr.of_below ((Below.refl _ _).alloc (Nat.le_refl _) _)
  refine ⟨_, 2, w.heap.size, 0, rfl, fun _ => rfl, fun i hi => ?_, by simp, fun e => by have := hS _ e; omega, by simp⟩
  obtain rfl | rfl : i = 0 ∨ i = 1 := by simp at hi; omega
  · exact ⟨v, hh.cell 0, h.fr hB (fun _ _ h => h.elim)⟩
  · exact ⟨u, hh.cell 1, h2.fr hB (fun _ _ h => h.elim)⟩
theorem New.ap {S : Nat → Prop} {w w' : World} {v : Value} {d : List UInt8} (h : New w w' v d) (hd : d ≠ []) (hS : ∀ k, S k → k < w.heap.size) : BytesAp S w' v d := by
  refine Own.bytesAp h.1 (fun i hi e => by have := h.2.1 i hi; have := hS i e; omega) (fun e => ?_)
  have := h.1.slice
  obtain ⟨a, c, hv⟩ := this
  rw [e] at hv
  simp at hv
  exact absurd (List.eq_nil_of_length_eq_zero hv.2.1.symm) hd
theorem numL_ne (n : Nat) : numL n ≠ [] := by
  have := numL_pos n
  intro e; rw [e] at this; simp at this

/-- What a writer's call does to it: the bytes lie behind, or there is no room for them. -/
def Laid (w w' : World) (p : Nat) (v : Value) (bs x : List UInt8) (e : Ending) : Prop :=
  if bs.length + x.length ≤ 1048576 then e = .returned (.int .i64 0) ∧ ∃ v', Wr w' p v' (bs ++ x) ∧ Fr (WS p v) w w' ∧ Loc w v v'
  else e = .returned (.int .i64 3) ∧ Wr w' p v bs ∧ Fr (WS p v) w w'
theorem raw_any (p : Nat) (v lv : Value) (bs : List UInt8) (ds : List (List UInt8)) (w : World) (hW : Wr w p v bs) (hl : Parts (WS p v) w lv ds) (hd : ∀ d ∈ ds, d.length ≤ 1000000000) :
    Calls Try.prog 21 #[.pointer (some ⟨p, 0, none⟩), lv] w fun e w' => Laid w w' p v bs ds.flatten e := by
  unfold Laid
  by_cases h : bs.length + ds.flatten.length ≤ 1048576
  · simp only [if_pos h]
    exact raw_ok p v lv bs ds w hW hl h
  · simp only [if_neg h]
    exact (raw_long p v lv bs ds w hW hl h hd).mono fun e w' ⟨h1, h2⟩ => by subst h2; exact ⟨h1, hW, Fr.refl _ _⟩
/-- A call that makes memory ahead of it. -/
theorem Laid.after {w w1 w' : World} {p : Nat} {v : Value} {bs x : List UInt8} {e : Ending} (h : Laid w1 w' p v bs x e) (k : Below w.heap.size w w1) : Laid w w' p v bs x e := by
  have hf : Fr (WS p v) w w1 := Fr.of_below k
  have hz := k.size
  unfold Laid at *
  split
  · rename_i h0
    rw [if_pos h0] at h
    obtain ⟨h1, v', h2, h3, h4⟩ := h
    exact ⟨h1, v', h2, hf.trans h3, fun k hk => (h4 k hk).imp id (fun h => by omega)⟩
  · rename_i h0
    rw [if_neg h0] at h
    exact ⟨h.1, h.2.1, hf.trans h.2.2⟩
theorem parts3 {S : Nat → Prop} (w : World) (v u z : Value) {x y q : List UInt8} (h : BytesAp S w v x) (h2 : BytesAp S w u y) (h3 : BytesAp S w z q) (hS : ∀ k, S k → k < w.heap.size) {g : Nat} (hg : g = w.heap.size := by simp) : Parts S (w.alloc (.cells #[v, u, z] 27)) (.slice (some ⟨g, 0, none⟩) 3 3) [x, y, q] := by
  subst hg
  have hh := has_new w #[v, u, z] 27 w.heap.size rfl
  have hB : Fr (fun _ => False) w (w.alloc (.cells #[v, u, z] 27)) := Fr.of_below ((Below.refl _ _).alloc (Nat.le_refl _) _)
  refine ⟨_, 3, w.heap.size, 0, rfl, fun _ => rfl, fun i hi => ?_, by simp, fun e => by have := hS _ e; omega, by simp⟩
  obtain rfl | rfl | rfl : i = 0 ∨ i = 1 ∨ i = 2 := by simp at hi; omega
  · exact ⟨v, hh.cell 0, h.fr hB (fun _ _ h => h.elim)⟩
  · exact ⟨u, hh.cell 1, h2.fr hB (fun _ _ h => h.elim)⟩
  · exact ⟨z, hh.cell 2, h3.fr hB (fun _ _ h => h.elim)⟩
end Go.Proofs.Ytgoflpfafkmmgaa
