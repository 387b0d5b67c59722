/- A writer: what it holds; none, folded, New, Raw, All. -/
import Derived.Test.YtgoflpfafkmmgaaW1
namespace Go.Proofs.Ytgoflpfafkmmgaa
open Go.RowKit

/-- A writer that has these bytes lies in block p; v is the slice that it holds. -/
structure Wr (w : World) (p : Nat) (v : Value) (bs : List UInt8) : Prop where
  has : Has w p #[v, .bool true] 74
  own : Own w v bs
  len : bs.length ≤ 1048576
/-- The blocks that a writer writes. -/
def WS (p : Nat) (v : Value) (k : Nat) : Prop := k = p ∨ v.ownBlock = some k
theorem Wr.fr {S : Nat → Prop} {w w' : World} {p : Nat} {v : Value} {bs : List UInt8} (h : Wr w p v bs) (k : Fr S w w') (hs : ∀ i, S i → ¬ WS p v i) : Wr w' p v bs :=
  ⟨h.has.fr k (fun e => hs _ e (.inl rfl)), h.own.fr k (fun i hi e => hs i e (.inr hi)), h.len⟩
theorem Wr.below {w w' : World} {p : Nat} {v : Value} {bs : List UInt8} (h : Wr w p v bs) (k : Below w.heap.size w w') : Wr w' p v bs := h.fr (S := fun _ => False) (Fr.of_below k) (fun _ h => h.elim)
theorem Wr.lt {w : World} {p : Nat} {v : Value} {bs : List UInt8} (h : Wr w p v bs) (k : Nat) (hk : WS p v k) : k < w.heap.size := by
  rcases hk with rfl | hk
  · exact h.has.lt
  · exact h.own.lt' hk
/-- Slices of bytes one behind the other, none of them in a block of S. -/
def Parts (S : Nat → Prop) (w : World) (v : Value) (ds : List (List UInt8)) : Prop :=
  ∃ a cap pb po, v = .slice a ds.length cap ∧ (ds ≠ [] → a = some ⟨pb, po, none⟩) ∧ (∀ i, i < ds.length → ∃ sv, w.cell? ⟨pb, po + i, none⟩ = some sv ∧ BytesAp S w sv (ds[i]?.getD [])) ∧ pb < w.heap.size ∧ ¬ S pb ∧ ds.length ≤ 1000
theorem flatten_take (ds : List (List UInt8)) (k : Nat) (h : k < ds.length) : (ds.take (k + 1)).flatten = (ds.take k).flatten ++ ds[k]?.getD [] := by
  rw [List.take_succ_eq_append_getElem h, List.flatten_append]
  simp [h]
theorem flatten_take_le (ds : List (List UInt8)) (k : Nat) : (ds.take k).flatten.length ≤ ds.flatten.length := by
  have e : ds.flatten = (ds.take k).flatten ++ (ds.drop k).flatten := by rw [← List.flatten_append, List.take_append_drop]
  rw [e]; simp

set_option maxHeartbeats 400000 in
theorem wnone_any (p : Nat) (w : World) (h : w.cell? ⟨p, 1, none⟩ = some (.bool true)) :
    Calls Try.prog 40 #[.pointer (some ⟨p, 0, none⟩)] w fun e w' => e = .returned (.bool false) ∧ w' = w := by
  go_enter Try.func40, Try.ntmps40
  go_wp2
  go_ret
  exact ⟨rfl, rfl⟩
set_option maxHeartbeats 400000 in
theorem wnone_nil (w : World) :
    Calls Try.prog 40 #[.pointer none] w fun e w' => e = .returned (.bool true) ∧ w' = w := by
  go_enter Try.func40, Try.ntmps40
  go_wp2
  go_ret
  exact ⟨rfl, rfl⟩
set_option maxHeartbeats 400000 in
theorem wnew_any (w : World) :
    Calls Try.prog 12 #[] w fun e w' => e = .returned (.pointer (some ⟨w.heap.size, 0, none⟩)) ∧ Below w.heap.size w w' ∧ Wr w' w.heap.size (.slice none 0 0) [] := by
  go_enter Try.func12, Try.ntmps12
  go_wp2
  go_ret
  exact ⟨rfl, (Below.refl _ _).alloc (Nat.le_refl _) _, has_new _ _ _ _ rfl, Own.nil _, by simp⟩

set_option maxRecDepth 10000 in
set_option maxHeartbeats 1000000 in
theorem raw_ok (p : Nat) (v lv : Value) (bs : List UInt8) (ds : List (List UInt8)) (w : World) (hW : Wr w p v bs) (hl : Parts (WS p v) w lv ds) (hfit : bs.length + ds.flatten.length ≤ 1048576) :
    Calls Try.prog 21 #[.pointer (some ⟨p, 0, none⟩), lv] w fun e w' => e = .returned (.int .i64 0) ∧ ∃ v', Wr w' p v' (bs ++ ds.flatten) ∧ Fr (WS p v) w w' ∧ Loc w v v' := by
  obtain ⟨a, cap, pb, po, rfl, ha, hcell, hpb, hSpb, hnum⟩ := hl
  have c1 := hW.has.cell 1
  have c0 := hW.has.cell 0
  obtain ⟨va, vc, rfl⟩ := hW.own.slice
  simp at c0 c1
  go_enter Try.func21, Try.ntmps21
  go_wp2_with (first | (go_at_call 40; refine (wnone_any _ _ c1).mono ?_; rintro e w' ⟨rfl, hw⟩; obtain rfl := hw.symm))
  clear hw
  have Hlen : Hid (ds.length ≤ 1000 ∧ bs.length + ds.flatten.length ≤ 1048576) := ⟨hnum, hfit⟩
  have Hle : Hid (∀ k, (ds.take k).flatten.length ≤ ds.flatten.length) := flatten_take_le ds
  have Hcell : Hid (∀ i, i < ds.length → ∃ sv, w.cell? ⟨pb, po + i, none⟩ = some sv ∧ BytesAp (WS p (.slice va bs.length vc)) w sv (ds[i]?.getD [])) := hcell
  clear hcell
  go_loop [5, 20] (fun r i => ∃ k : Nat, k ≤ ds.length ∧ i = .int .i64 k ∧ r = .int .i64 (1048576 - bs.length - ((ds.take k).flatten.length : Int))) (fun _ i => ds.length - (intOf i).toNat)
  case atStart => exact ⟨0, by omega, rfl, by simp⟩
  case round =>
    obtain ⟨k, hk, rfl, rfl⟩ := hrel
    by_cases hlt : k < ds.length
    · obtain rfl := ha (by intro e; simp [e] at hlt)
      obtain ⟨sv, hsv, hby⟩ := Hcell.out k hlt
      obtain ⟨a2, c2, db2, o2, rfl, _⟩ := hby
      have h1 := Hle.out (k + 1)
      have Hf : Hid ((ds.take (k + 1)).flatten.length = (ds.take k).flatten.length + (ds[k]?.getD []).length) := by show _ = _; rw [flatten_take ds k hlt, List.length_append]
      rw [Hf.out] at h1
      generalize (ds.take k).flatten.length = s at *
      generalize (ds[k]?.getD []).length = m at *
      generalize ds.flatten.length = tot at *
      have i1 : (k : Int) < ds.length := by omega
      go_wp2_with fail
      go_round
      case rel => exact ⟨k + 1, by omega, by go_num, by rw [Hf.out]; congr 1; omega⟩
      case measure => simp [intOf]; omega
    · obtain rfl : k = ds.length := by omega
      rw [List.take_length]
      have i1 : ¬ (ds.length : Int) < ds.length := by omega
      go_wp2_with fail
      go_loopw [35] (fun i wr => ∃ k : Nat, k ≤ ds.length ∧ i = .int .i64 k ∧ ∃ v', Wr wr p v' (bs ++ (ds.take k).flatten) ∧ Fr (WS p (.slice va bs.length vc)) w wr ∧ Loc w (.slice va bs.length vc) v') (fun i _ => ds.length - (intOf i).toNat)
      case atStart => exact ⟨0, by omega, rfl, _, by simpa using hW, Fr.refl _ _, fun k hk => .inl hk⟩
      case round =>
        obtain ⟨k, hk, rfl, v1, hW1, hF1, hL1⟩ := hrel
        by_cases hlt : k < ds.length
        · obtain rfl := ha (by intro e; simp [e] at hlt)
          obtain ⟨sv, hsv, hby⟩ := Hcell.out k hlt
          have hsv' : wr.cell? ⟨pb, po + k, none⟩ = some sv := (World.cell?_of_block (w := w) (hF1.block pb hpb hSpb)).trans hsv
          have hby' : Bytes wr sv (ds[k]?.getD []) := (hby.fr hF1 (fun _ _ h => h)).bytes
          have d0 := hW1.has.cell 0
          have d1 := hW1.has.free 0
          simp at d0
          have Ht : Hid ((bs ++ (ds.take k).flatten) ++ ds[k]?.getD [] = bs ++ (ds.take (k + 1)).flatten) := by show _ = _; rw [flatten_take ds k hlt, List.append_assoc]
          have Hb : Hid ((bs ++ (ds.take (k + 1)).flatten).length ≤ 1048576) := by
            have h1 := Hle.out (k + 1); have h2 := Hlen.out.2; show _ ≤ _; rw [List.length_append]; omega
          have Hown : Hid (Own wr v1 (bs ++ (ds.take k).flatten)) := hW1.own
          have Hby : Hid (Bytes wr sv (ds[k]?.getD [])) := hby'
          clear hby hby' hsv
          obtain ⟨a1, c1', rfl⟩ := hW1.own.slice
          obtain ⟨a2, c2, db2, o2, rfl, _⟩ := id Hby.out
          have i2 : (k : Int) < ds.length := by omega
          generalize hB : bs ++ (ds.take k).flatten = B at *
          generalize ds[k]?.getD [] = x at *
          go_wp2_with (refine wpList_append_bytes _ rfl _ _ 27 27 rfl info5 Try.underlying27 Try.underlying27 _ _ B x rfl rfl Hown.out Hby.out (by have h1 := Hb.out; rw [← Ht.out, List.length_append] at h1; omega) ?_; intro v2 w2 hown2 hgr hloc hnil; clear hnil; obtain ⟨a3, c3, hv2⟩ := hown2.slice; rw [List.length_append] at hv2; subst hv2; have hF2 := grown_fr hgr; have hH2 := hW1.has.fr hF2 (hW1.own.has_ne hW1.has (by decide)); have e0 := hH2.free 0; have e1 := hH2.cell 0; simp at e1)
          go_roundw
          case rel =>
            have hW3 := hH2.set 0 (.slice a3 (B.length + x.length) c3)
            simp at hW3
            have hne := hown2.has_ne hH2 (by decide)
            have hFs : Fr (· = p) w2 (w2.setCell ⟨p, 0, none⟩ (.slice a3 (B.length + x.length) c3)) := Fr.of_ex (Ex.set _ _ _ _)
            refine ⟨k + 1, by omega, by go_num, _, ⟨hW3, ?_, Hb.out⟩, ?_, ?_⟩
            · rw [← Ht.out]
              exact hown2.fr hFs (fun i hi e => hne (by rw [hi, e]))
            · refine (hF1.trans' hF2 ?_).trans' hFs (fun i _ e => .inl e)
              intro i hi e
              rcases hL1 i e with h | h
              · exact .inr h
              · omega
            · intro i hi
              rcases hloc i hi with h | h
              · exact hL1 i h
              · have := hF1.size; exact .inr (by omega)
          case measure => simp [intOf]; omega
        · obtain rfl : k = ds.length := by omega
          rw [List.take_length] at hW1
          have i2 : ¬ (ds.length : Int) < ds.length := by omega
          go_wp2_with fail
          go_ret
          exact ⟨rfl, _, hW1, hF1, hL1⟩
end Go.Proofs.Ytgoflpfafkmmgaa
