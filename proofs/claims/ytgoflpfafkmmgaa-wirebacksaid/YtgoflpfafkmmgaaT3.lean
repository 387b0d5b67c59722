/- A reader's take, by another kind of call. -/
import Derived.Test.YtgoflpfafkmmgaaT1
namespace Go.Proofs.Ytgoflpfafkmmgaa
open Go.RowKit

set_option maxRecDepth 10000 in
set_option maxHeartbeats 1000000 in
theorem take50_67_ok (R : Nat → Prop) (r : Nat) (hRr : R r) (lv : Value) (rest rest' : List UInt8) (at_ : Nat) (w : World) (hR : Rd w r lv rest at_ 0) (b k : Value) (d : List UInt8)  (hlen : rest'.length ≤ rest.length) (hat : at_ + rest.length ≤ 10000000000)
    (hF : ∀ W, Has W w.heap.size #[lv] 80 → Below w.heap.size w W → Calls Try.prog 67 #[.pointer (some ⟨w.heap.size, 0, none⟩), b, k] W fun e w' => ∃ val, Found R w.heap.size W rest' val e w' ∧ Own w' val d ∧ ∀ k, val.ownBlock = some k → w.heap.size < k) : 
    Calls Try.prog 50 #[.pointer (some ⟨r, 0, none⟩), .func (Fn.func 67) #[] #[b, k]] w fun e w' => ∃ val, e = .returned (.tuple #[val, .int .i64 0]) ∧ TookR R w w' r rest' (at_ + (rest.length - rest'.length)) ∧ Own w' val d ∧ ∀ k, val.ownBlock = some k → w.heap.size ≤ k := by
  have c0 := hR.has.cell 0
  have c1 := hR.has.cell 1
  have c2 := hR.has.cell 2
  have c3 := hR.has.cell 3
  have hrl := hR.lt
  obtain ⟨la, lc, lb, lo, rfl, _⟩ := id hR.by_
  simp at c0 c1 c2 c3
  go_enter Try.func50, Try.ntmps50
  go_wp2_with (first | (go_at_call 56; refine (rnone_any _ _ c3).mono ?_; rintro e w' ⟨rfl, hw⟩; obtain rfl := hw.symm) | fail)
  refine named (p := fun X => Calls _ _ _ X _) ?_
  intro W1 hW1
  have hB1 : Below w.heap.size w W1 := by rw [hW1]; exact (Below.refl _ _).alloc (Nat.le_refl _) _
  have hH1 : Has W1 w.heap.size #[.slice la rest.length lc] 80 := by rw [hW1]; exact has_new _ _ _ _ rfl
  clear hW1
  refine (hF W1 hH1 hB1).mono ?_
  rintro e W2 ⟨val, ⟨rfl, hE2, lv', hH2, hby2⟩, hown, hnew⟩
  obtain ⟨va, vc, rfl⟩ := hown.slice
  have HO : Hid (Own W2 (.slice va d.length vc) d ∧ ∀ k, (Value.slice va d.length vc).ownBlock = some k → w.heap.size < k) := ⟨hown, hnew⟩
  clear hown hnew
  have hE : Ex w.heap.size w W2 := (Ex.below hB1).trans ⟨hE2.os, hE2.tape, hE2.output, hE2.size, fun k hk hn => hE2.block k hk hn⟩
  have hR2 : Has W2 r #[.slice la rest.length lc, .int .i64 at_, .int .i64 0, .bool true] 82 := hR.has.ex hE (by omega)
  have d0 := hR2.cell 0
  have d1 := hR2.cell 1
  have d3 := hR2.free 1
  have d4 := hR2.free 0
  have f0 := hH2.cell 0
  obtain ⟨la', lc', lb', lo', rfl, hcap', ha', hin', hlt', hap'⟩ := hby2
  have HB : Hid (rest'.length ≤ lc' ∧ (rest' ≠ [] → la' = some ⟨lb', lo', none⟩) ∧ BytesIn W2 lb' lo' rest' ∧ lb' < W2.heap.size ∧ ¬ (R lb' ∨ lb' = w.heap.size)) := ⟨hcap', ha', hin', hlt', hap'⟩
  clear hcap' ha' hin' hlt' hap' c0 c1 c2 c3 hF
  simp at d0 d1 f0
  have hne : ¬ w.heap.size = r := by omega
  have hne' : ¬ r = w.heap.size := by omega
  have Hn : Hid (at_ + (rest.length - rest'.length) ≤ 10000000000) := by show _ ≤ _; omega
  have z1 : (rest.length : Int) - rest'.length = ((rest.length - rest'.length : Nat) : Int) := by omega
  have z2 : (at_ : Int) + ((rest.length : Int) - rest'.length) = ((at_ + (rest.length - rest'.length) : Nat) : Int) := by omega
  go_wp2_with fail
  go_region
  go_wp2_with fail
  go_ret2
  have hs1 := hR2.set 1 (.int .i64 ((at_ : Int) + ((rest.length - rest'.length : Nat) : Int)))
  have hs2 := hs1.set 0 (.slice la' rest'.length lc')
  simp at hs2
  have hne2 : ¬ lb' = r := fun e => HB.out.2.2.2.2 (.inl (by rw [e]; exact hRr))
  have hbR : BytesAp R ((W2.setCell ⟨r, 1, none⟩ (.int .i64 ((at_ : Int) + ((rest.length - rest'.length : Nat) : Int)))).setCell ⟨r, 0, none⟩ (.slice la' rest'.length lc')).drew (.slice la' rest'.length lc') rest' := by
    obtain ⟨h1, h2, h3, h4, h5⟩ := HB.out
    exact ⟨la', lc', lb', lo', rfl, h1, h2, fun j hj => cell_set_blk hne2 (cell_set_blk hne2 (h3 j hj)), by simpa using h4, fun e => h5 (.inl e)⟩
  refine ⟨_, rfl, ⟨.slice la' rest'.length lc', ⟨⟨?_, ?_⟩, hbR⟩, ?_⟩, ?_, fun k hk => Nat.le_of_lt (HO.out.2 k hk)⟩
  · exact hs2
  · obtain ⟨h1, h2, h3, h4, h5⟩ := HB.out
    refine ⟨la', lc', lb', lo', rfl, h1, h2, fun j hj => ?_, by simpa using h4, hne2⟩
    exact cell_set_blk hne2 (cell_set_blk hne2 (h3 j hj))
  · have hEr : Ex r w W2 := ⟨hE.os, hE.tape, hE.output, hE.size, fun k hk hn => hE.block k hk (by omega)⟩
    exact ((hEr.trans (Ex.set _ _ _ _)).trans (Ex.set _ _ _ _)).trans (Ex.drew _ _)
  · refine HO.out.1.fr (S := (· = r)) (Fr.of_ex (((Ex.set _ _ _ _).trans (Ex.set _ _ _ _)).trans (Ex.drew _ _))) (fun i hi e => ?_)
    have := HO.out.2 i hi
    omega
set_option maxRecDepth 10000 in
set_option maxHeartbeats 1000000 in
theorem take50_67_err (r : Nat) (lv : Value) (rest : List UInt8) (at_ ec : Nat) (w : World) (hR : Rd w r lv rest at_ 0) (b k : Value) (hec : ec ≠ 0)
    (hF : ∀ W, Has W w.heap.size #[lv] 80 → Below w.heap.size w W → Calls Try.prog 67 #[.pointer (some ⟨w.heap.size, 0, none⟩), b, k] W fun e w' => Failed w.heap.size W ec e w') : 
    Calls Try.prog 50 #[.pointer (some ⟨r, 0, none⟩), .func (Fn.func 67) #[] #[b, k]] w fun e w' => e = .returned (.tuple #[.slice none 0 0, .int .i64 ec]) ∧ Flaws w w' r lv rest at_ ec := by
  have c0 := hR.has.cell 0
  have c1 := hR.has.cell 1
  have c2 := hR.has.cell 2
  have c3 := hR.has.cell 3
  have hrl := hR.lt
  obtain ⟨la, lc, lb, lo, rfl, hBy⟩ := id hR.by_
  have HB : Hid (rest.length ≤ lc ∧ (rest ≠ [] → la = some ⟨lb, lo, none⟩) ∧ BytesIn w lb lo rest ∧ lb < w.heap.size ∧ ¬ lb = r) := hBy
  clear hBy
  simp at c0 c1 c2 c3
  have hec' : (ec : Int) ≠ 0 := by omega
  go_enter Try.func50, Try.ntmps50
  go_wp2_with (first | (go_at_call 56; refine (rnone_any _ _ c3).mono ?_; rintro e w' ⟨rfl, hw⟩; obtain rfl := hw.symm) | fail)
  refine named (p := fun X => Calls _ _ _ X _) ?_
  intro W1 hW1
  have hB1 : Below w.heap.size w W1 := by rw [hW1]; exact (Below.refl _ _).alloc (Nat.le_refl _) _
  have hH1 : Has W1 w.heap.size #[.slice la rest.length lc] 80 := by rw [hW1]; exact has_new _ _ _ _ rfl
  clear hW1
  refine (hF W1 hH1 hB1).mono ?_
  rintro e W2 ⟨⟨val, rfl⟩, hE2⟩
  have hE : Ex w.heap.size w W2 := (Ex.below hB1).trans ⟨hE2.os, hE2.tape, hE2.output, hE2.size, fun k hk hn => hE2.block k hk hn⟩
  have hR2 : Has W2 r #[.slice la rest.length lc, .int .i64 at_, .int .i64 0, .bool true] 82 := hR.has.ex hE (by omega)
  have d2 := hR2.cell 2
  have d3 := hR2.free 2
  clear c0 c1 c2 c3 hF
  simp at d2
  go_wp2_with fail
  go_ret2
  have hs1 := hR2.set 2 (.int .i64 ec)
  simp at hs1
  refine ⟨rfl, ⟨?_, ?_⟩, ?_⟩
  · exact hs1
  · obtain ⟨h1, h2, h3, h4, h5⟩ := HB.out
    refine ⟨la, lc, lb, lo, rfl, h1, h2, fun j hj => ?_, by have := hE.size; simp; omega, h5⟩
    exact cell_set_blk h5 ((World.cell?_of_block (w := w) (hE.block lb h4 (by omega))).trans (h3 j hj))
  · have hEr : Ex r w W2 := ⟨hE.os, hE.tape, hE.output, hE.size, fun k hk hn => hE.block k hk (by omega)⟩
    exact hEr.trans (Ex.set _ _ _ _)
set_option maxRecDepth 10000 in
set_option maxHeartbeats 1000000 in
theorem take50_67_flaw (r : Nat) (lv : Value) (rest : List UInt8) (at_ ec : Nat) (w : World) (hR : Rd w r lv rest at_ ec) (b k : Value) (hec : ec ≠ 0) :
    Calls Try.prog 50 #[.pointer (some ⟨r, 0, none⟩), .func (Fn.func 67) #[] #[b, k]] w fun e w' => e = .returned (.tuple #[.slice none 0 0, .int .i64 ec]) ∧ ∃ k, w' = w.drewN k := by
  have c2 := hR.has.cell 2
  have c3 := hR.has.cell 3
  simp at c2 c3
  have hec' : (ec : Int) ≠ 0 := by omega
  go_enter Try.func50, Try.ntmps50
  go_wp2_with (first | (go_at_call 56; refine (rnone_any _ _ c3).mono ?_; rintro e w' ⟨rfl, hw⟩; obtain rfl := hw.symm) | fail)
  go_quiet (fail)
  go_wp2_with fail
  go_ret2
  exact ⟨rfl, _, rfl⟩
set_option maxHeartbeats 400000 in
theorem take50_67_nil (w : World) (b k : Value) :
    Calls Try.prog 50 #[.pointer none, .func (Fn.func 67) #[] #[b, k]] w fun e w' => e = .returned (.tuple #[.slice none 0 0, .int .i64 1]) ∧ w' = w := by
  go_enter Try.func50, Try.ntmps50
  go_wp2_with (first | (go_at_call 56; refine (rnone_nil _).mono ?_; rintro e w' ⟨rfl, hw⟩; obtain rfl := hw.symm) | fail)
  go_ret2
  exact ⟨rfl, rfl⟩
end Go.Proofs.Ytgoflpfafkmmgaa
