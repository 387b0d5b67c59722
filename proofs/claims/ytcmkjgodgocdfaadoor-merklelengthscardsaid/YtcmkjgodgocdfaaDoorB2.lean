/- sha.Of, sha.Sum. -/
import Derived.Test.YtcmkjgodgocdfaaDoorB1
namespace Go.Proofs.YtcmkjgodgocdfaaDoor
open Go.RowKit

/-- A slice value whose parts these are. -/
def Parts (w : World) (v : Value) (ds : List (List UInt8)) : Prop :=
  ∃ a cap pb po, v = .slice a ds.length cap ∧ (ds ≠ [] → a = some ⟨pb, po, none⟩) ∧ (∀ i, i < ds.length → ∃ sv, w.cell? ⟨pb, po + i, none⟩ = some sv ∧ Bytes w sv (ds[i]?.getD [])) ∧ pb < w.heap.size ∧ ds.flatten.length < 10000000000 ∧ ds.length < 10000000000

theorem flatten_take (ds : List (List UInt8)) (k : Nat) (h : k < ds.length) : (ds.take (k + 1)).flatten = (ds.take k).flatten ++ ds[k]?.getD [] := by
  rw [List.take_succ_eq_append_getElem h, List.flatten_append]
  simp [h]
theorem flatten_take_le (ds : List (List UInt8)) (k : Nat) : (ds.take k).flatten.length ≤ ds.flatten.length := by
  have e : ds.flatten = (ds.take k).flatten ++ (ds.drop k).flatten := by rw [← List.flatten_append, List.take_append_drop]
  rw [e]; simp

set_option maxRecDepth 100000 in
set_option maxHeartbeats 1000000 in
theorem of_any (v : Value) (ds : List (List UInt8)) (w : World) (hv : Parts w v ds) (hg : Glob w) :
    Calls Tryd.prog 45 #[v] w fun e w' => e = .returned (.agg (byteCells (shaL ds.flatten))) ∧ Below w.heap.size w w' := by
  obtain ⟨a, cap, pb, po, rfl, ha, hcell, hpb, hsm, hnum⟩ := hv
  have hgs := hg.size
  go_enter Tryd.func45, Tryd.ntmps45
  go_wp2_with fail
  refine named (p := fun X => Calls _ _ _ X _) ?_
  intro W0 hW0
  have hB0 : Below w.heap.size w W0 := by rw [hW0]; exact (Below.refl _ _).alloc (Nat.le_refl _) _
  have hz0 : W0.heap.size = w.heap.size + 1 := by rw [hW0]; simp
  have hr0 : Has W0 w.heap.size (zeroCells 32) 30 := by rw [hW0]; exact has_new _ _ _ _ rfl
  clear hW0
  refine (new_any W0 (hg.below hB0 hgs)).mono ?_
  rintro e W1 ⟨rfl, hB1, hH1⟩
  rw [hz0] at hH1 hB1 ⊢
  have hs1 := hH1.lt
  have hBa : Below w.heap.size w W1 := hB0.trans (hB1.mono (by omega))
  have hr1 : Has W1 w.heap.size (zeroCells 32) 30 := hr0.below hB1 (by omega)
  have hg1 := hg.below hBa hgs
  clear hz0
  go_wp2_with fail
  go_loopw [9] (fun i wr => ∃ k : Nat, k ≤ ds.length ∧ i = .int .i64 k ∧ Ex (w.heap.size + 1) W1 wr ∧ HashAt wr (w.heap.size + 1) (ds.take k).flatten) (fun i _ => ds.length - (intOf i).toNat)
  case atStart => exact ⟨0, by omega, rfl, Ex.refl _ _, by simpa using hH1⟩
  case round =>
    obtain ⟨k, hk, rfl, hE, hH⟩ := hrel
    have hBr : Below w.heap.size w wr := Below.ex hBa hBa.size hE (by omega)
    have hlen := flatten_take_le ds k
    have hsm' : ds.flatten.length < 10000000000 := hsm
    by_cases hlt : k < ds.length
    · obtain rfl := ha (by intro e; simp [e] at hlt)
      obtain ⟨sv, hsv, hby⟩ := hcell k hlt
      have hsv' := (hBr.cell (p := ⟨pb, po + k, none⟩) hpb).trans hsv
      have hlen2 := flatten_take_le ds (k + 1)
      rw [flatten_take ds k hlt, List.length_append] at hlen2
      have hso : SliceOf wr (w.heap.size + 1) sv (ds[k]?.getD []) := ((hby.of (w.heap.size + 1) (by omega)).below hBa).ex hE
      obtain ⟨a2, c2, db2, o2, rfl, _⟩ := id hso
      have hso' : Hid (SliceOf wr (w.heap.size + 1) (.slice a2 (ds[k]?.getD []).length c2) (ds[k]?.getD [])) := hso
      have HL2 : Hid ((ds.take k).flatten.length + (ds[k]?.getD []).length ≤ ds.flatten.length) := hlen2
      clear hso hsv hby hlen2 hlen hcell
      have HK : Hid (k < ds.length) := hlt
      generalize hdk : ds[k]?.getD [] = dk at *
      have Hdk : Hid (ds[k]?.getD [] = dk) := hdk
      clear hdk
      go_wp2_with fail
      refine (write_any (w.heap.size + 1) (ds.take k).flatten dk _ wr hH hso'.out (hg1.ex hE (by omega)) (by omega) (by have := HL2.out; omega)).mono ?_
      rintro e W3 ⟨rfl, hE3, hH3⟩
      go_wp2
      go_roundw
      case rel => exact ⟨k + 1, HK.out, by go_num, hE.trans hE3, by rw [flatten_take ds k HK.out, Hdk.out]; exact hH3⟩
      case measure => have := HK.out; simp [intOf]; omega
    · have ek : k = ds.length := by omega
      subst ek
      rw [List.take_of_length_le (Nat.le_refl _)] at hH
      clear hcell hlen
      go_wp2_with fail
      refine (sum_any (w.heap.size + 1) ds.flatten wr hH (hg1.ex hE (by omega)) (by omega)).mono ?_
      rintro e W4 ⟨rfl, hB4⟩
      have hr4 := (hr1.ex hE (by omega)).below hB4 (hr1.ex hE (by omega)).lt
      have hb32 : (byteCells (shaL ds.flatten)).size = 32 := by rw [byteCells_size, shaL_length]
      go_wp2_with (refine wpList_store_row rfl 30 _ _ rfl w.heap.size _ rfl rfl 30 _ hr4 (by rw [hb32]; kernel_rfl) (by rw [hb32, zeroCells_size]) (byteCells_one _) ?_)
      refine bodyPost_ret (results_cell_row rfl _ _ w.heap.size 30 _ (0, 0) _ rfl (setRow_heap _ _ _ _ _ _ hr4) Tryd.underlying30 rfl (by rw [hb32]; kernel_rfl)) rfl ?_
      exact ⟨rfl, (hBr.trans (hB4.mono hBr.size)).trans ⟨rfl, rfl, rfl, by simp, fun j hj => setRow_other _ _ _ _ (by omega)⟩⟩

end Go.Proofs.YtcmkjgodgocdfaaDoor
