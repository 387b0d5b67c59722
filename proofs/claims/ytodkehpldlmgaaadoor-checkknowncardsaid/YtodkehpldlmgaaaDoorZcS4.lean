/- What the document makes of two spans, Op by Op. -/
import Derived.Test.YtodkehpldlmgaaaDoorZcS3
import Derived.Test.YtodkehpldlmgaaaDoorZq3
import Derived.Test.YtodkehpldlmgaaaDoorZq1
namespace Go.Proofs.YtodkehpldlmgaaaDoor
open Go.RowKit

set_option maxRecDepth 10000 in
set_option maxHeartbeats 2000000 in
theorem rmake_1 (dl dg sl sg : Nat) (w : World) (hb : dl ≤ dg ∧ dg < 4294967296 ∧ sl ≤ sg ∧ sg < 4294967296) :
    Calls Tryd.prog 37 #[.int .i64 1, spV dl dg, spV sl sg] w fun e w' => e = .returned (spV ((⟨true, sl, sg⟩ : Rg).least : Int) ((⟨true, sl, sg⟩ : Rg).great : Int)) ∧ Below w.heap.size w w' := by
  obtain ⟨h1, h2, h3, h4⟩ := hb
  go_enter Tryd.func37, Tryd.ntmps37
  go_wp2
  exact bodyPost_ret (v := spV sl sg) (by simp [results, Tryd.results37, go_sem]) rfl ⟨rfl, (((Below.refl _ _).alloc (Nat.le_refl _) _).alloc (by simp) _).alloc (by simp; omega) _⟩
set_option maxRecDepth 10000 in
set_option maxHeartbeats 2000000 in
theorem rmake_2 (dl dg sl sg : Nat) (w : World) (hb : dl ≤ dg ∧ dg < 4294967296 ∧ sl ≤ sg ∧ sg < 4294967296) :
    Calls Tryd.prog 37 #[.int .i64 2, spV dl dg, spV sl sg] w fun e w' => e = .returned (spV ((⟨true, sl, sg⟩ : Rg).least : Int) ((⟨true, sl, sg⟩ : Rg).great : Int)) ∧ Below w.heap.size w w' := by
  obtain ⟨h1, h2, h3, h4⟩ := hb
  go_enter Tryd.func37, Tryd.ntmps37
  go_wp2
  exact bodyPost_ret (v := spV sl sg) (by simp [results, Tryd.results37, go_sem]) rfl ⟨rfl, (((Below.refl _ _).alloc (Nat.le_refl _) _).alloc (by simp) _).alloc (by simp; omega) _⟩
set_option maxRecDepth 10000 in
set_option maxHeartbeats 2000000 in
theorem rmake_3a (dl dg sl sg : Nat) (w : World) (hb : dl ≤ dg ∧ dg < 4294967296 ∧ sl ≤ sg ∧ sg < 4294967296) (hc : 4294967295 < dg + sg) :
    Calls Tryd.prog 37 #[.int .i64 3, spV dl dg, spV sl sg] w fun e w' => e = .returned (spV ((sumR ⟨true, dl, dg⟩ ⟨true, sl, sg⟩).least : Int) ((sumR ⟨true, dl, dg⟩ ⟨true, sl, sg⟩).great : Int)) ∧ Below w.heap.size w w' := by
  obtain ⟨h1, h2, h3, h4⟩ := hb
  have HQ : Hid (sumR ⟨true, dl, dg⟩ ⟨true, sl, sg⟩ = allR) := wideR_all hc
  have e1 : wrap64 ((dg : Int) + (sg : Int)) = (dg : Int) + (sg : Int) := by unfold wrap64; omega
  have hc' : (4294967295 : Int) < (dg : Int) + (sg : Int) := by omega
  clear h1 h3 hc
  go_enter Tryd.func37, Tryd.ntmps37
  go_wp2
  exact bodyPost_ret (v := spV 0 4294967295) (by simp [results, Tryd.results37, go_sem]) rfl ⟨by rw [HQ.out]; rfl, (((Below.refl _ _).alloc (Nat.le_refl _) _).alloc (by simp) _).alloc (by simp; omega) _⟩
set_option maxRecDepth 10000 in
set_option maxHeartbeats 2000000 in
theorem rmake_3b (dl dg sl sg : Nat) (w : World) (hb : dl ≤ dg ∧ dg < 4294967296 ∧ sl ≤ sg ∧ sg < 4294967296) (hc : ¬ 4294967295 < dg + sg) :
    Calls Tryd.prog 37 #[.int .i64 3, spV dl dg, spV sl sg] w fun e w' => e = .returned (spV ((sumR ⟨true, dl, dg⟩ ⟨true, sl, sg⟩).least : Int) ((sumR ⟨true, dl, dg⟩ ⟨true, sl, sg⟩).great : Int)) ∧ Below w.heap.size w w' := by
  obtain ⟨h1, h2, h3, h4⟩ := hb
  have HQ : Hid (sumR ⟨true, dl, dg⟩ ⟨true, sl, sg⟩ = fromR (dl + sl) (dg + sg)) := wideR_in hc
  have e1 : wrap64 ((dg : Int) + (sg : Int)) = (dg : Int) + (sg : Int) := by unfold wrap64; omega
  have e2 : wrap64 ((dl : Int) + (sl : Int)) = (dl : Int) + (sl : Int) := by unfold wrap64; omega
  have hc' : ¬ (4294967295 : Int) < (dg : Int) + (sg : Int) := by omega
  clear h1 h3 hc
  go_enter Tryd.func37, Tryd.ntmps37
  go_wp2
  exact bodyPost_ret (v := spV ((dl : Int) + (sl : Int)) ((dg : Int) + (sg : Int))) (by simp [results, Tryd.results37, go_sem]) rfl ⟨by rw [HQ.out]; rfl, (((Below.refl _ _).alloc (Nat.le_refl _) _).alloc (by simp) _).alloc (by simp; omega) _⟩
set_option maxRecDepth 10000 in
set_option maxHeartbeats 2000000 in
theorem rmake_4a (dl dg sl sg : Nat) (w : World) (hb : dl ≤ dg ∧ dg < 4294967296 ∧ sl ≤ sg ∧ sg < 4294967296) (hc : 4294967295 < dg + sg) :
    Calls Tryd.prog 37 #[.int .i64 4, spV dl dg, spV sl sg] w fun e w' => e = .returned (spV ((sumR ⟨true, dl, dg⟩ ⟨true, sl, sg⟩).least : Int) ((sumR ⟨true, dl, dg⟩ ⟨true, sl, sg⟩).great : Int)) ∧ Below w.heap.size w w' := by
  obtain ⟨h1, h2, h3, h4⟩ := hb
  have HQ : Hid (sumR ⟨true, dl, dg⟩ ⟨true, sl, sg⟩ = allR) := wideR_all hc
  have e1 : wrap64 ((dg : Int) + (sg : Int)) = (dg : Int) + (sg : Int) := by unfold wrap64; omega
  have hc' : (4294967295 : Int) < (dg : Int) + (sg : Int) := by omega
  clear h1 h3 hc
  go_enter Tryd.func37, Tryd.ntmps37
  go_wp2
  exact bodyPost_ret (v := spV 0 4294967295) (by simp [results, Tryd.results37, go_sem]) rfl ⟨by rw [HQ.out]; rfl, (((Below.refl _ _).alloc (Nat.le_refl _) _).alloc (by simp) _).alloc (by simp; omega) _⟩
set_option maxRecDepth 10000 in
set_option maxHeartbeats 2000000 in
theorem rmake_4b (dl dg sl sg : Nat) (w : World) (hb : dl ≤ dg ∧ dg < 4294967296 ∧ sl ≤ sg ∧ sg < 4294967296) (hc : ¬ 4294967295 < dg + sg) :
    Calls Tryd.prog 37 #[.int .i64 4, spV dl dg, spV sl sg] w fun e w' => e = .returned (spV ((sumR ⟨true, dl, dg⟩ ⟨true, sl, sg⟩).least : Int) ((sumR ⟨true, dl, dg⟩ ⟨true, sl, sg⟩).great : Int)) ∧ Below w.heap.size w w' := by
  obtain ⟨h1, h2, h3, h4⟩ := hb
  have HQ : Hid (sumR ⟨true, dl, dg⟩ ⟨true, sl, sg⟩ = fromR (dl + sl) (dg + sg)) := wideR_in hc
  have e1 : wrap64 ((dg : Int) + (sg : Int)) = (dg : Int) + (sg : Int) := by unfold wrap64; omega
  have e2 : wrap64 ((dl : Int) + (sl : Int)) = (dl : Int) + (sl : Int) := by unfold wrap64; omega
  have hc' : ¬ (4294967295 : Int) < (dg : Int) + (sg : Int) := by omega
  clear h1 h3 hc
  go_enter Tryd.func37, Tryd.ntmps37
  go_wp2
  exact bodyPost_ret (v := spV ((dl : Int) + (sl : Int)) ((dg : Int) + (sg : Int))) (by simp [results, Tryd.results37, go_sem]) rfl ⟨by rw [HQ.out]; rfl, (((Below.refl _ _).alloc (Nat.le_refl _) _).alloc (by simp) _).alloc (by simp; omega) _⟩
set_option maxRecDepth 10000 in
set_option maxHeartbeats 2000000 in
theorem rmake_5a (dl dg sl sg : Nat) (w : World) (hb : dl ≤ dg ∧ dg < 4294967296 ∧ sl ≤ sg ∧ sg < 4294967296) (hc : dl < sg) :
    Calls Tryd.prog 37 #[.int .i64 5, spV dl dg, spV sl sg] w fun e w' => e = .returned (spV ((diffR ⟨true, dl, dg⟩ ⟨true, sl, sg⟩).least : Int) ((diffR ⟨true, dl, dg⟩ ⟨true, sl, sg⟩).great : Int)) ∧ Below w.heap.size w w' := by
  obtain ⟨h1, h2, h3, h4⟩ := hb
  have HQ : Hid (diffR ⟨true, dl, dg⟩ ⟨true, sl, sg⟩ = allR) := if_pos hc
  have hc' : (dl : Int) < (sg : Int) := by omega
  clear h1 h2 h3 h4 hc
  go_enter Tryd.func37, Tryd.ntmps37
  go_wp2
  exact bodyPost_ret (v := spV 0 4294967295) (by simp [results, Tryd.results37, go_sem]) rfl ⟨by rw [HQ.out]; rfl, (((Below.refl _ _).alloc (Nat.le_refl _) _).alloc (by simp) _).alloc (by simp; omega) _⟩
set_option maxRecDepth 10000 in
set_option maxHeartbeats 2000000 in
theorem rmake_5b (dl dg sl sg : Nat) (w : World) (hb : dl ≤ dg ∧ dg < 4294967296 ∧ sl ≤ sg ∧ sg < 4294967296) (hc : ¬ dl < sg) :
    Calls Tryd.prog 37 #[.int .i64 5, spV dl dg, spV sl sg] w fun e w' => e = .returned (spV ((diffR ⟨true, dl, dg⟩ ⟨true, sl, sg⟩).least : Int) ((diffR ⟨true, dl, dg⟩ ⟨true, sl, sg⟩).great : Int)) ∧ Below w.heap.size w w' := by
  obtain ⟨h1, h2, h3, h4⟩ := hb
  have HQ : Hid (diffR ⟨true, dl, dg⟩ ⟨true, sl, sg⟩ = fromR (dl - sg) (dg - sl)) := if_neg hc
  have HN : Hid ((dl : Int) - (sg : Int) = ((dl - sg : Nat) : Int) ∧ (dg : Int) - (sl : Int) = ((dg - sl : Nat) : Int)) := by show _ ∧ _; omega
  have e1 : wrap64 ((dl : Int) - (sg : Int)) = (dl : Int) - (sg : Int) := by unfold wrap64; omega
  have e2 : wrap64 ((dg : Int) - (sl : Int)) = (dg : Int) - (sl : Int) := by unfold wrap64; omega
  have hc' : ¬ (dl : Int) < (sg : Int) := by omega
  clear h1 h2 h3 h4 hc
  go_enter Tryd.func37, Tryd.ntmps37
  go_wp2
  exact bodyPost_ret (v := spV ((dl : Int) - (sg : Int)) ((dg : Int) - (sl : Int))) (by simp [results, Tryd.results37, go_sem]) rfl ⟨by rw [HQ.out, HN.out.1, HN.out.2]; rfl, (((Below.refl _ _).alloc (Nat.le_refl _) _).alloc (by simp) _).alloc (by simp; omega) _⟩
set_option maxRecDepth 10000 in
set_option maxHeartbeats 2000000 in
theorem rmake_8a (dl dg sl sg : Nat) (w : World) (hb : dl ≤ dg ∧ dg < 4294967296 ∧ sl ≤ sg ∧ sg < 4294967296) (hc : sg < dg) :
    Calls Tryd.prog 37 #[.int .i64 8, spV dl dg, spV sl sg] w fun e w' => e = .returned (spV ((comR ⟨true, dl, dg⟩ ⟨true, sl, sg⟩).least : Int) ((comR ⟨true, dl, dg⟩ ⟨true, sl, sg⟩).great : Int)) ∧ Below w.heap.size w w' := by
  obtain ⟨h1, h2, h3, h4⟩ := hb
  have HQ : Hid (comR ⟨true, dl, dg⟩ ⟨true, sl, sg⟩ = fromR 0 sg) := by show fromR 0 (min dg sg) = _; rw [Nat.min_eq_right (by omega)]
  have hc2 : (sg : Int) < (dg : Int) := by omega
  clear h1 h2 h3 h4 hc
  go_enter Tryd.func37, Tryd.ntmps37
  go_wp2
  exact bodyPost_ret (v := spV 0 (sg : Int)) (by simp [results, Tryd.results37, go_sem]) rfl ⟨by rw [HQ.out]; rfl, (((Below.refl _ _).alloc (Nat.le_refl _) _).alloc (by simp) _).alloc (by simp; omega) _⟩
set_option maxRecDepth 10000 in
set_option maxHeartbeats 2000000 in
theorem rmake_8b (dl dg sl sg : Nat) (w : World) (hb : dl ≤ dg ∧ dg < 4294967296 ∧ sl ≤ sg ∧ sg < 4294967296) (hc : ¬ sg < dg) :
    Calls Tryd.prog 37 #[.int .i64 8, spV dl dg, spV sl sg] w fun e w' => e = .returned (spV ((comR ⟨true, dl, dg⟩ ⟨true, sl, sg⟩).least : Int) ((comR ⟨true, dl, dg⟩ ⟨true, sl, sg⟩).great : Int)) ∧ Below w.heap.size w w' := by
  obtain ⟨h1, h2, h3, h4⟩ := hb
  have HQ : Hid (comR ⟨true, dl, dg⟩ ⟨true, sl, sg⟩ = fromR 0 dg) := by show fromR 0 (min dg sg) = _; rw [Nat.min_eq_left (by omega)]
  have hc2 : ¬ (sg : Int) < (dg : Int) := by omega
  clear h1 h2 h3 h4 hc
  go_enter Tryd.func37, Tryd.ntmps37
  go_wp2
  exact bodyPost_ret (v := spV 0 (dg : Int)) (by simp [results, Tryd.results37, go_sem]) rfl ⟨by rw [HQ.out]; rfl, (((Below.refl _ _).alloc (Nat.le_refl _) _).alloc (by simp) _).alloc (by simp; omega) _⟩
set_option maxRecDepth 10000 in
set_option maxHeartbeats 2000000 in
theorem rmake_9a (dl dg sl sg : Nat) (w : World) (hb : dl ≤ dg ∧ dg < 4294967296 ∧ sl ≤ sg ∧ sg < 4294967296) (hc : sg < dg) :
    Calls Tryd.prog 37 #[.int .i64 9, spV dl dg, spV sl sg] w fun e w' => e = .returned (spV ((comR ⟨true, dl, dg⟩ ⟨true, sl, sg⟩).least : Int) ((comR ⟨true, dl, dg⟩ ⟨true, sl, sg⟩).great : Int)) ∧ Below w.heap.size w w' := by
  obtain ⟨h1, h2, h3, h4⟩ := hb
  have HQ : Hid (comR ⟨true, dl, dg⟩ ⟨true, sl, sg⟩ = fromR 0 sg) := by show fromR 0 (min dg sg) = _; rw [Nat.min_eq_right (by omega)]
  have hc2 : (sg : Int) < (dg : Int) := by omega
  clear h1 h2 h3 h4 hc
  go_enter Tryd.func37, Tryd.ntmps37
  go_wp2
  exact bodyPost_ret (v := spV 0 (sg : Int)) (by simp [results, Tryd.results37, go_sem]) rfl ⟨by rw [HQ.out]; rfl, (((Below.refl _ _).alloc (Nat.le_refl _) _).alloc (by simp) _).alloc (by simp; omega) _⟩
set_option maxRecDepth 10000 in
set_option maxHeartbeats 2000000 in
theorem rmake_9b (dl dg sl sg : Nat) (w : World) (hb : dl ≤ dg ∧ dg < 4294967296 ∧ sl ≤ sg ∧ sg < 4294967296) (hc : ¬ sg < dg) :
    Calls Tryd.prog 37 #[.int .i64 9, spV dl dg, spV sl sg] w fun e w' => e = .returned (spV ((comR ⟨true, dl, dg⟩ ⟨true, sl, sg⟩).least : Int) ((comR ⟨true, dl, dg⟩ ⟨true, sl, sg⟩).great : Int)) ∧ Below w.heap.size w w' := by
  obtain ⟨h1, h2, h3, h4⟩ := hb
  have HQ : Hid (comR ⟨true, dl, dg⟩ ⟨true, sl, sg⟩ = fromR 0 dg) := by show fromR 0 (min dg sg) = _; rw [Nat.min_eq_left (by omega)]
  have hc2 : ¬ (sg : Int) < (dg : Int) := by omega
  clear h1 h2 h3 h4 hc
  go_enter Tryd.func37, Tryd.ntmps37
  go_wp2
  exact bodyPost_ret (v := spV 0 (dg : Int)) (by simp [results, Tryd.results37, go_sem]) rfl ⟨by rw [HQ.out]; rfl, (((Below.refl _ _).alloc (Nat.le_refl _) _).alloc (by simp) _).alloc (by simp; omega) _⟩
set_option maxRecDepth 10000 in
set_option maxHeartbeats 2000000 in
theorem rmake_15a (dl dg sl sg : Nat) (w : World) (hb : dl ≤ dg ∧ dg < 4294967296 ∧ sl ≤ sg ∧ sg < 4294967296) (hp : 1 ≤ sl) (hc : sg - 1 < dg) :
    Calls Tryd.prog 37 #[.int .i64 15, spV dl dg, spV sl sg] w fun e w' => e = .returned (spV ((restR ⟨true, dl, dg⟩ ⟨true, sl, sg⟩).least : Int) ((restR ⟨true, dl, dg⟩ ⟨true, sl, sg⟩).great : Int)) ∧ Below w.heap.size w w' := by
  obtain ⟨h1, h2, h3, h4⟩ := hb
  have HQ : Hid (restR ⟨true, dl, dg⟩ ⟨true, sl, sg⟩ = fromR 0 (sg - 1)) := by show fromR 0 (min dg (sg - 1)) = _; rw [Nat.min_eq_right (by omega)]
  have HN : Hid ((sg : Int) - 1 = ((sg - 1 : Nat) : Int)) := by show _ = _; omega
  have e1 : wrap64 ((sg : Int) - 1) = (sg : Int) - 1 := by unfold wrap64; omega
  have hc2 : (sg : Int) - 1 < (dg : Int) := by omega
  clear h1 h2 h3 h4 hc hp
  go_enter Tryd.func37, Tryd.ntmps37
  go_wp2
  exact bodyPost_ret (v := spV 0 ((sg : Int) - 1)) (by simp [results, Tryd.results37, go_sem]) rfl ⟨by rw [HQ.out, HN.out]; rfl, (((Below.refl _ _).alloc (Nat.le_refl _) _).alloc (by simp) _).alloc (by simp; omega) _⟩
set_option maxRecDepth 10000 in
set_option maxHeartbeats 2000000 in
theorem rmake_15b (dl dg sl sg : Nat) (w : World) (hb : dl ≤ dg ∧ dg < 4294967296 ∧ sl ≤ sg ∧ sg < 4294967296) (hp : 1 ≤ sl) (hc : ¬ sg - 1 < dg) :
    Calls Tryd.prog 37 #[.int .i64 15, spV dl dg, spV sl sg] w fun e w' => e = .returned (spV ((restR ⟨true, dl, dg⟩ ⟨true, sl, sg⟩).least : Int) ((restR ⟨true, dl, dg⟩ ⟨true, sl, sg⟩).great : Int)) ∧ Below w.heap.size w w' := by
  obtain ⟨h1, h2, h3, h4⟩ := hb
  have HQ : Hid (restR ⟨true, dl, dg⟩ ⟨true, sl, sg⟩ = fromR 0 dg) := by show fromR 0 (min dg (sg - 1)) = _; rw [Nat.min_eq_left (by omega)]
  have e1 : wrap64 ((sg : Int) - 1) = (sg : Int) - 1 := by unfold wrap64; omega
  have hc2 : ¬ (sg : Int) - 1 < (dg : Int) := by omega
  clear h1 h2 h3 h4 hc hp
  go_enter Tryd.func37, Tryd.ntmps37
  go_wp2
  exact bodyPost_ret (v := spV 0 (dg : Int)) (by simp [results, Tryd.results37, go_sem]) rfl ⟨by rw [HQ.out]; rfl, (((Below.refl _ _).alloc (Nat.le_refl _) _).alloc (by simp) _).alloc (by simp; omega) _⟩
end Go.Proofs.YtodkehpldlmgaaaDoor
