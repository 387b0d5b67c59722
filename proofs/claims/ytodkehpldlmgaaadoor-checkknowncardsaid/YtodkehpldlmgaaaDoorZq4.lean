/- Texts put together, in build order: N2, B8, B9, J1, J3, J4, J5, J6. -/
import Derived.Test.YtodkehpldlmgaaaDoorZq3
import Derived.Test.YtodkehpldlmgaaaDoorZq1
import Derived.Test.YtodkehpldlmgaaaDoorZq2
import Derived.Deep.Cut
/- What the Ops from movi to mod make. -/
namespace Go.Proofs.YtodkehpldlmgaaaDoor
open Go.RowKit

set_option maxRecDepth 10000 in
set_option maxHeartbeats 1000000 in
theorem make_1 (i : Ins) (c : Int) (k : Kn) (v : Value) (W : World) (hop : i.op = 1) (hm : MayI i) (_hK : KnR k) (hv : IsMake W 1 v) : MakeOk i c k v W := by
  obtain ⟨hm, him⟩ := hm
  unfold MayP at hm
  have hn : i.op.toNat = 1 := by omega
  obtain ⟨d, hd⟩ : ∃ d : Nat, i.dst = (d : Int) := ⟨i.dst.toNat, by omega⟩
  have hdn : d < 10 := by omega
  have hdt : i.dst.toNat = d := by omega
  cases hv with
  | set G b h hb =>
    obtain rfl : G = 45 := by simp [setOf] at h; exact h.symm
    refine ⟨75, _, rfl, fun _ _ => rfl, ?_⟩
    have e : outI i c k = .ok (k.set d (fromR i.imm i.imm), noK) := by unfold outI; rw [hn, hdt]; rfl
    rw [e]
    exact set1_ok i c k d 45 b (fromR i.imm i.imm) W hd hdn hb (fun _ _ => rfl) (fun X _ => imm_any i c k X)
  | fold F G bf bg h hf hg => simp [foldOf] at h
  | fn h => exact absurd h (by decide)
set_option maxRecDepth 10000 in
set_option maxHeartbeats 1000000 in
theorem make_2 (i : Ins) (c : Int) (k : Kn) (v : Value) (W : World) (hop : i.op = 2) (hm : MayI i) (_hK : KnR k) (hv : IsMake W 2 v) : MakeOk i c k v W := by
  obtain ⟨hm, him⟩ := hm
  unfold MayP at hm
  have hn : i.op.toNat = 2 := by omega
  obtain ⟨d, hd⟩ : ∃ d : Nat, i.dst = (d : Int) := ⟨i.dst.toNat, by omega⟩
  have hdn : d < 10 := by omega
  have hdt : i.dst.toNat = d := by omega
  obtain ⟨s, hs⟩ : ∃ s : Nat, i.src = (s : Int) := ⟨i.src.toNat, by omega⟩
  have hsn : s < 10 := by omega
  have hst : i.src.toNat = s := by omega
  cases hv with
  | set G b h hb =>
    obtain rfl : G = 46 := by simp [setOf] at h; exact h.symm
    refine ⟨75, _, rfl, fun _ _ => rfl, ?_⟩
    have e : outI i c k = bindE (needE k s) fun o => .ok (k.set d o, noK) := by unfold outI; rw [hn, hdt, hst]; rfl
    rw [e]
    by_cases h0 : k.r s = noR
    · rw [needE_no h0]
      exact set1_no i c k 46 b .unset W hb (fun _ _ => rfl) (fun X _ => src_no i c k s X hs hsn h0)
    · rw [needE_ok h0]
      exact set1_ok i c k d 46 b (k.r s) W hd hdn hb (fun _ _ => rfl) (fun X _ => src_ok i c k s X hs hsn h0)
  | fold F G bf bg h hf hg => simp [foldOf] at h
  | fn h => exact absurd h (by decide)
set_option maxRecDepth 10000 in
set_option maxHeartbeats 1000000 in
theorem make_3 (i : Ins) (c : Int) (k : Kn) (v : Value) (W : World) (hop : i.op = 3) (hm : MayI i) (hK : KnR k) (hv : IsMake W 3 v) : MakeOk i c k v W := by
  obtain ⟨hm, him⟩ := hm
  unfold MayP at hm
  have hn : i.op.toNat = 3 := by omega
  obtain ⟨d, hd⟩ : ∃ d : Nat, i.dst = (d : Int) := ⟨i.dst.toNat, by omega⟩
  have hdn : d < 10 := by omega
  have hdt : i.dst.toNat = d := by omega
  cases hv with
  | set G b h hb => simp [setOf] at h
  | fold F G bf bg h hf hg =>
    obtain ⟨rfl, rfl⟩ : F = 48 ∧ G = 45 := by simp [foldOf] at h; exact ⟨h.1.symm, h.2.symm⟩
    refine ⟨79, _, rfl, fun _ _ => rfl, ?_⟩
    have e : outI i c k = foldE k d (.ok (fromR i.imm i.imm)) fun r q => .ok (sumR r q) := by unfold outI; rw [hn, hdt]; rfl
    rw [e]
    unfold foldE
    by_cases h0 : k.r d = noR
    · rw [needE_no h0]
      exact fold_dno i c k d 48 45 bf bg W hd hdn h0 hg hf
    · rw [needE_ok h0]
      have hdo := (hK d hdn).2
      have hdl := hK.le hdn
      simp only [bindE_ok]
      exact fold_ok i c k d 48 45 bf bg (fromR i.imm i.imm) (sumR (k.r d) (fromR i.imm i.imm)) W hd hdn h0 hg hf (fun _ _ => rfl) (fun X _ => imm_any i c k X) (fun _ _ => rfl) (fun X _ => sum_any (k.r d) (fromR i.imm i.imm) hdo (fromR_ok him him) X hdl (Nat.le_refl _))
  | fn h => exact absurd h (by decide)
set_option maxRecDepth 10000 in
set_option maxHeartbeats 1000000 in
theorem make_4 (i : Ins) (c : Int) (k : Kn) (v : Value) (W : World) (hop : i.op = 4) (hm : MayI i) (hK : KnR k) (hv : IsMake W 4 v) : MakeOk i c k v W := by
  obtain ⟨hm, him⟩ := hm
  unfold MayP at hm
  have hn : i.op.toNat = 4 := by omega
  obtain ⟨d, hd⟩ : ∃ d : Nat, i.dst = (d : Int) := ⟨i.dst.toNat, by omega⟩
  have hdn : d < 10 := by omega
  have hdt : i.dst.toNat = d := by omega
  obtain ⟨s, hs⟩ : ∃ s : Nat, i.src = (s : Int) := ⟨i.src.toNat, by omega⟩
  have hsn : s < 10 := by omega
  have hst : i.src.toNat = s := by omega
  cases hv with
  | set G b h hb => simp [setOf] at h
  | fold F G bf bg h hf hg =>
    obtain ⟨rfl, rfl⟩ : F = 48 ∧ G = 46 := by simp [foldOf] at h; exact ⟨h.1.symm, h.2.symm⟩
    refine ⟨79, _, rfl, fun _ _ => rfl, ?_⟩
    have e : outI i c k = foldE k d (needE k s) fun r q => .ok (sumR r q) := by unfold outI; rw [hn, hdt, hst]; rfl
    rw [e]
    unfold foldE
    by_cases h0 : k.r d = noR
    · rw [needE_no h0]
      exact fold_dno i c k d 48 46 bf bg W hd hdn h0 hg hf
    · rw [needE_ok h0]
      have hdo := (hK d hdn).2
      have hdl := hK.le hdn
      by_cases h1 : k.r s = noR
      · rw [needE_no h1]
        exact fold_ono i c k d 48 46 bf bg .unset W hd hdn h0 hg hf (fun _ _ => rfl) (fun X _ => src_no i c k s X hs hsn h1)
      · rw [needE_ok h1]
        have hso := (hK s hsn).2
        have hsl := hK.le hsn
        simp only [bindE_ok]
        exact fold_ok i c k d 48 46 bf bg (k.r s) (sumR (k.r d) (k.r s)) W hd hdn h0 hg hf (fun _ _ => rfl) (fun X _ => src_ok i c k s X hs hsn h1) (fun _ _ => rfl) (fun X _ => sum_any (k.r d) (k.r s) hdo hso X hdl hsl)
  | fn h => exact absurd h (by decide)
set_option maxRecDepth 10000 in
set_option maxHeartbeats 1000000 in
theorem make_5 (i : Ins) (c : Int) (k : Kn) (v : Value) (W : World) (hop : i.op = 5) (hm : MayI i) (hK : KnR k) (hv : IsMake W 5 v) : MakeOk i c k v W := by
  obtain ⟨hm, him⟩ := hm
  unfold MayP at hm
  have hn : i.op.toNat = 5 := by omega
  obtain ⟨d, hd⟩ : ∃ d : Nat, i.dst = (d : Int) := ⟨i.dst.toNat, by omega⟩
  have hdn : d < 10 := by omega
  have hdt : i.dst.toNat = d := by omega
  obtain ⟨s, hs⟩ : ∃ s : Nat, i.src = (s : Int) := ⟨i.src.toNat, by omega⟩
  have hsn : s < 10 := by omega
  have hst : i.src.toNat = s := by omega
  cases hv with
  | set G b h hb => simp [setOf] at h
  | fold F G bf bg h hf hg =>
    obtain ⟨rfl, rfl⟩ : F = 49 ∧ G = 46 := by simp [foldOf] at h; exact ⟨h.1.symm, h.2.symm⟩
    refine ⟨79, _, rfl, fun _ _ => rfl, ?_⟩
    have e : outI i c k = foldE k d (needE k s) fun r q => .ok (diffR r q) := by unfold outI; rw [hn, hdt, hst]; rfl
    rw [e]
    unfold foldE
    by_cases h0 : k.r d = noR
    · rw [needE_no h0]
      exact fold_dno i c k d 49 46 bf bg W hd hdn h0 hg hf
    · rw [needE_ok h0]
      have hdo := (hK d hdn).2
      have hdl := hK.le hdn
      by_cases h1 : k.r s = noR
      · rw [needE_no h1]
        exact fold_ono i c k d 49 46 bf bg .unset W hd hdn h0 hg hf (fun _ _ => rfl) (fun X _ => src_no i c k s X hs hsn h1)
      · rw [needE_ok h1]
        have hso := (hK s hsn).2
        have hsl := hK.le hsn
        simp only [bindE_ok]
        exact fold_ok i c k d 49 46 bf bg (k.r s) (diffR (k.r d) (k.r s)) W hd hdn h0 hg hf (fun _ _ => rfl) (fun X _ => src_ok i c k s X hs hsn h1) (fun _ _ => rfl) (fun X _ => diff_any (k.r d) (k.r s) hdo hso X hdl hsl)
  | fn h => exact absurd h (by decide)
set_option maxRecDepth 10000 in
set_option maxHeartbeats 1000000 in
theorem make_6 (i : Ins) (c : Int) (k : Kn) (v : Value) (W : World) (hop : i.op = 6) (hm : MayI i) (hK : KnR k) (hv : IsMake W 6 v) : MakeOk i c k v W := by
  obtain ⟨hm, him⟩ := hm
  unfold MayP at hm
  have hn : i.op.toNat = 6 := by omega
  obtain ⟨d, hd⟩ : ∃ d : Nat, i.dst = (d : Int) := ⟨i.dst.toNat, by omega⟩
  have hdn : d < 10 := by omega
  have hdt : i.dst.toNat = d := by omega
  cases hv with
  | set G b h hb => simp [setOf] at h
  | fold F G bf bg h hf hg =>
    obtain ⟨rfl, rfl⟩ : F = 50 ∧ G = 45 := by simp [foldOf] at h; exact ⟨h.1.symm, h.2.symm⟩
    refine ⟨79, _, rfl, fun _ _ => rfl, ?_⟩
    have e : outI i c k = foldE k d (.ok (fromR i.imm i.imm)) fun r q => .ok (prodR r q) := by unfold outI; rw [hn, hdt]; rfl
    rw [e]
    unfold foldE
    by_cases h0 : k.r d = noR
    · rw [needE_no h0]
      exact fold_dno i c k d 50 45 bf bg W hd hdn h0 hg hf
    · rw [needE_ok h0]
      have hdo := (hK d hdn).2
      have hdl := hK.le hdn
      simp only [bindE_ok]
      exact fold_ok i c k d 50 45 bf bg (fromR i.imm i.imm) (prodR (k.r d) (fromR i.imm i.imm)) W hd hdn h0 hg hf (fun _ _ => rfl) (fun X _ => imm_any i c k X) (fun _ _ => rfl) (fun X _ => prod_any (k.r d) (fromR i.imm i.imm) hdo (fromR_ok him him) X hdl (Nat.le_refl _))
  | fn h => exact absurd h (by decide)
set_option maxRecDepth 10000 in
set_option maxHeartbeats 1000000 in
theorem make_7 (i : Ins) (c : Int) (k : Kn) (v : Value) (W : World) (hop : i.op = 7) (hm : MayI i) (hK : KnR k) (hv : IsMake W 7 v) : MakeOk i c k v W := by
  obtain ⟨hm, him⟩ := hm
  unfold MayP at hm
  have hn : i.op.toNat = 7 := by omega
  obtain ⟨d, hd⟩ : ∃ d : Nat, i.dst = (d : Int) := ⟨i.dst.toNat, by omega⟩
  have hdn : d < 10 := by omega
  have hdt : i.dst.toNat = d := by omega
  obtain ⟨s, hs⟩ : ∃ s : Nat, i.src = (s : Int) := ⟨i.src.toNat, by omega⟩
  have hsn : s < 10 := by omega
  have hst : i.src.toNat = s := by omega
  cases hv with
  | set G b h hb => simp [setOf] at h
  | fold F G bf bg h hf hg =>
    obtain ⟨rfl, rfl⟩ : F = 50 ∧ G = 46 := by simp [foldOf] at h; exact ⟨h.1.symm, h.2.symm⟩
    refine ⟨79, _, rfl, fun _ _ => rfl, ?_⟩
    have e : outI i c k = foldE k d (needE k s) fun r q => .ok (prodR r q) := by unfold outI; rw [hn, hdt, hst]; rfl
    rw [e]
    unfold foldE
    by_cases h0 : k.r d = noR
    · rw [needE_no h0]
      exact fold_dno i c k d 50 46 bf bg W hd hdn h0 hg hf
    · rw [needE_ok h0]
      have hdo := (hK d hdn).2
      have hdl := hK.le hdn
      by_cases h1 : k.r s = noR
      · rw [needE_no h1]
        exact fold_ono i c k d 50 46 bf bg .unset W hd hdn h0 hg hf (fun _ _ => rfl) (fun X _ => src_no i c k s X hs hsn h1)
      · rw [needE_ok h1]
        have hso := (hK s hsn).2
        have hsl := hK.le hsn
        simp only [bindE_ok]
        exact fold_ok i c k d 50 46 bf bg (k.r s) (prodR (k.r d) (k.r s)) W hd hdn h0 hg hf (fun _ _ => rfl) (fun X _ => src_ok i c k s X hs hsn h1) (fun _ _ => rfl) (fun X _ => prod_any (k.r d) (k.r s) hdo hso X hdl hsl)
  | fn h => exact absurd h (by decide)
set_option maxRecDepth 10000 in
set_option maxHeartbeats 1000000 in
theorem make_8 (i : Ins) (c : Int) (k : Kn) (v : Value) (W : World) (hop : i.op = 8) (hm : MayI i) (hK : KnR k) (hv : IsMake W 8 v) : MakeOk i c k v W := by
  obtain ⟨hm, him⟩ := hm
  unfold MayP at hm
  have hn : i.op.toNat = 8 := by omega
  obtain ⟨d, hd⟩ : ∃ d : Nat, i.dst = (d : Int) := ⟨i.dst.toNat, by omega⟩
  have hdn : d < 10 := by omega
  have hdt : i.dst.toNat = d := by omega
  cases hv with
  | set G b h hb => simp [setOf] at h
  | fold F G bf bg h hf hg =>
    obtain ⟨rfl, rfl⟩ : F = 51 ∧ G = 45 := by simp [foldOf] at h; exact ⟨h.1.symm, h.2.symm⟩
    refine ⟨79, _, rfl, fun _ _ => rfl, ?_⟩
    have e : outI i c k = foldE k d (.ok (fromR i.imm i.imm)) fun r q => .ok (comR r q) := by unfold outI; rw [hn, hdt]; rfl
    rw [e]
    unfold foldE
    by_cases h0 : k.r d = noR
    · rw [needE_no h0]
      exact fold_dno i c k d 51 45 bf bg W hd hdn h0 hg hf
    · rw [needE_ok h0]
      have hdo := (hK d hdn).2
      have hdl := hK.le hdn
      simp only [bindE_ok]
      exact fold_ok i c k d 51 45 bf bg (fromR i.imm i.imm) (comR (k.r d) (fromR i.imm i.imm)) W hd hdn h0 hg hf (fun _ _ => rfl) (fun X _ => imm_any i c k X) (fun _ _ => rfl) (fun X _ => com_any (k.r d) (fromR i.imm i.imm) hdo (fromR_ok him him) X)
  | fn h => exact absurd h (by decide)
set_option maxRecDepth 10000 in
set_option maxHeartbeats 1000000 in
theorem make_9 (i : Ins) (c : Int) (k : Kn) (v : Value) (W : World) (hop : i.op = 9) (hm : MayI i) (hK : KnR k) (hv : IsMake W 9 v) : MakeOk i c k v W := by
  obtain ⟨hm, him⟩ := hm
  unfold MayP at hm
  have hn : i.op.toNat = 9 := by omega
  obtain ⟨d, hd⟩ : ∃ d : Nat, i.dst = (d : Int) := ⟨i.dst.toNat, by omega⟩
  have hdn : d < 10 := by omega
  have hdt : i.dst.toNat = d := by omega
  obtain ⟨s, hs⟩ : ∃ s : Nat, i.src = (s : Int) := ⟨i.src.toNat, by omega⟩
  have hsn : s < 10 := by omega
  have hst : i.src.toNat = s := by omega
  cases hv with
  | set G b h hb => simp [setOf] at h
  | fold F G bf bg h hf hg =>
    obtain ⟨rfl, rfl⟩ : F = 51 ∧ G = 46 := by simp [foldOf] at h; exact ⟨h.1.symm, h.2.symm⟩
    refine ⟨79, _, rfl, fun _ _ => rfl, ?_⟩
    have e : outI i c k = foldE k d (needE k s) fun r q => .ok (comR r q) := by unfold outI; rw [hn, hdt, hst]; rfl
    rw [e]
    unfold foldE
    by_cases h0 : k.r d = noR
    · rw [needE_no h0]
      exact fold_dno i c k d 51 46 bf bg W hd hdn h0 hg hf
    · rw [needE_ok h0]
      have hdo := (hK d hdn).2
      have hdl := hK.le hdn
      by_cases h1 : k.r s = noR
      · rw [needE_no h1]
        exact fold_ono i c k d 51 46 bf bg .unset W hd hdn h0 hg hf (fun _ _ => rfl) (fun X _ => src_no i c k s X hs hsn h1)
      · rw [needE_ok h1]
        have hso := (hK s hsn).2
        have hsl := hK.le hsn
        simp only [bindE_ok]
        exact fold_ok i c k d 51 46 bf bg (k.r s) (comR (k.r d) (k.r s)) W hd hdn h0 hg hf (fun _ _ => rfl) (fun X _ => src_ok i c k s X hs hsn h1) (fun _ _ => rfl) (fun X _ => com_any (k.r d) (k.r s) hdo hso X)
  | fn h => exact absurd h (by decide)
set_option maxRecDepth 10000 in
set_option maxHeartbeats 1000000 in
theorem make_10 (i : Ins) (c : Int) (k : Kn) (v : Value) (W : World) (hop : i.op = 10) (hm : MayI i) (hK : KnR k) (hv : IsMake W 10 v) : MakeOk i c k v W := by
  obtain ⟨hm, him⟩ := hm
  unfold MayP at hm
  have hn : i.op.toNat = 10 := by omega
  obtain ⟨d, hd⟩ : ∃ d : Nat, i.dst = (d : Int) := ⟨i.dst.toNat, by omega⟩
  have hdn : d < 10 := by omega
  have hdt : i.dst.toNat = d := by omega
  obtain ⟨s, hs⟩ : ∃ s : Nat, i.src = (s : Int) := ⟨i.src.toNat, by omega⟩
  have hsn : s < 10 := by omega
  have hst : i.src.toNat = s := by omega
  cases hv with
  | set G b h hb => simp [setOf] at h
  | fold F G bf bg h hf hg =>
    obtain ⟨rfl, rfl⟩ : F = 52 ∧ G = 46 := by simp [foldOf] at h; exact ⟨h.1.symm, h.2.symm⟩
    refine ⟨79, _, rfl, fun _ _ => rfl, ?_⟩
    have e : outI i c k = foldE k d (needE k s) fun r q => .ok (eitR r q) := by unfold outI; rw [hn, hdt, hst]; rfl
    rw [e]
    unfold foldE
    by_cases h0 : k.r d = noR
    · rw [needE_no h0]
      exact fold_dno i c k d 52 46 bf bg W hd hdn h0 hg hf
    · rw [needE_ok h0]
      have hdo := (hK d hdn).2
      have hdl := hK.le hdn
      by_cases h1 : k.r s = noR
      · rw [needE_no h1]
        exact fold_ono i c k d 52 46 bf bg .unset W hd hdn h0 hg hf (fun _ _ => rfl) (fun X _ => src_no i c k s X hs hsn h1)
      · rw [needE_ok h1]
        have hso := (hK s hsn).2
        have hsl := hK.le hsn
        simp only [bindE_ok]
        exact fold_ok i c k d 52 46 bf bg (k.r s) (eitR (k.r d) (k.r s)) W hd hdn h0 hg hf (fun _ _ => rfl) (fun X _ => src_ok i c k s X hs hsn h1) (fun _ _ => rfl) (fun X _ => eit_any (k.r d) (k.r s) hdo hso X)
  | fn h => exact absurd h (by decide)
set_option maxRecDepth 10000 in
set_option maxHeartbeats 1000000 in
theorem make_11 (i : Ins) (c : Int) (k : Kn) (v : Value) (W : World) (hop : i.op = 11) (hm : MayI i) (hK : KnR k) (hv : IsMake W 11 v) : MakeOk i c k v W := by
  obtain ⟨hm, him⟩ := hm
  unfold MayP at hm
  have hn : i.op.toNat = 11 := by omega
  obtain ⟨d, hd⟩ : ∃ d : Nat, i.dst = (d : Int) := ⟨i.dst.toNat, by omega⟩
  have hdn : d < 10 := by omega
  have hdt : i.dst.toNat = d := by omega
  obtain ⟨s, hs⟩ : ∃ s : Nat, i.src = (s : Int) := ⟨i.src.toNat, by omega⟩
  have hsn : s < 10 := by omega
  have hst : i.src.toNat = s := by omega
  cases hv with
  | set G b h hb => simp [setOf] at h
  | fold F G bf bg h hf hg =>
    obtain ⟨rfl, rfl⟩ : F = 53 ∧ G = 46 := by simp [foldOf] at h; exact ⟨h.1.symm, h.2.symm⟩
    refine ⟨79, _, rfl, fun _ _ => rfl, ?_⟩
    have e : outI i c k = foldE k d (needE k s) fun r q => .ok (apaR r q) := by unfold outI; rw [hn, hdt, hst]; rfl
    rw [e]
    unfold foldE
    by_cases h0 : k.r d = noR
    · rw [needE_no h0]
      exact fold_dno i c k d 53 46 bf bg W hd hdn h0 hg hf
    · rw [needE_ok h0]
      have hdo := (hK d hdn).2
      have hdl := hK.le hdn
      by_cases h1 : k.r s = noR
      · rw [needE_no h1]
        exact fold_ono i c k d 53 46 bf bg .unset W hd hdn h0 hg hf (fun _ _ => rfl) (fun X _ => src_no i c k s X hs hsn h1)
      · rw [needE_ok h1]
        have hso := (hK s hsn).2
        have hsl := hK.le hsn
        simp only [bindE_ok]
        exact fold_ok i c k d 53 46 bf bg (k.r s) (apaR (k.r d) (k.r s)) W hd hdn h0 hg hf (fun _ _ => rfl) (fun X _ => src_ok i c k s X hs hsn h1) (fun _ _ => rfl) (fun X _ => apa_any (k.r d) (k.r s) hdo hso X)
  | fn h => exact absurd h (by decide)
set_option maxRecDepth 10000 in
set_option maxHeartbeats 1000000 in
theorem make_12 (i : Ins) (c : Int) (k : Kn) (v : Value) (W : World) (hop : i.op = 12) (hm : MayI i) (hK : KnR k) (hv : IsMake W 12 v) : MakeOk i c k v W := by
  obtain ⟨hm, him⟩ := hm
  unfold MayP at hm
  have hn : i.op.toNat = 12 := by omega
  obtain ⟨d, hd⟩ : ∃ d : Nat, i.dst = (d : Int) := ⟨i.dst.toNat, by omega⟩
  have hdn : d < 10 := by omega
  have hdt : i.dst.toNat = d := by omega
  have hp : i.imm ≤ 31 := by omega
  obtain ⟨hpo, hpp⟩ := pow_ok hp
  cases hv with
  | set G b h hb => simp [setOf] at h
  | fold F G bf bg h hf hg =>
    obtain ⟨rfl, rfl⟩ : F = 50 ∧ G = 54 := by simp [foldOf] at h; exact ⟨h.1.symm, h.2.symm⟩
    refine ⟨79, _, rfl, fun _ _ => rfl, ?_⟩
    have e : outI i c k = foldE k d (.ok (fromR (2 ^ i.imm) (2 ^ i.imm))) fun r q => .ok (prodR r q) := by unfold outI; rw [hn, hdt]; rfl
    rw [e]
    unfold foldE
    by_cases h0 : k.r d = noR
    · rw [needE_no h0]
      exact fold_dno i c k d 50 54 bf bg W hd hdn h0 hg hf
    · rw [needE_ok h0]
      have hdo := (hK d hdn).2
      have hdl := hK.le hdn
      simp only [bindE_ok]
      exact fold_ok i c k d 50 54 bf bg (fromR (2 ^ i.imm) (2 ^ i.imm)) (prodR (k.r d) (fromR (2 ^ i.imm) (2 ^ i.imm))) W hd hdn h0 hg hf (fun _ _ => rfl) (fun X _ => power_any i c k X hp) (fun _ _ => rfl) (fun X _ => prod_any (k.r d) (fromR (2 ^ i.imm) (2 ^ i.imm)) hdo hpo X hdl (Nat.le_refl _))
  | fn h => exact absurd h (by decide)
set_option maxRecDepth 10000 in
set_option maxHeartbeats 1000000 in
theorem make_13 (i : Ins) (c : Int) (k : Kn) (v : Value) (W : World) (hop : i.op = 13) (hm : MayI i) (hK : KnR k) (hv : IsMake W 13 v) : MakeOk i c k v W := by
  obtain ⟨hm, him⟩ := hm
  unfold MayP at hm
  have hn : i.op.toNat = 13 := by omega
  obtain ⟨d, hd⟩ : ∃ d : Nat, i.dst = (d : Int) := ⟨i.dst.toNat, by omega⟩
  have hdn : d < 10 := by omega
  have hdt : i.dst.toNat = d := by omega
  have hp : i.imm ≤ 31 := by omega
  obtain ⟨hpo, hpp⟩ := pow_ok hp
  cases hv with
  | set G b h hb => simp [setOf] at h
  | fold F G bf bg h hf hg =>
    obtain ⟨rfl, rfl⟩ : F = 55 ∧ G = 54 := by simp [foldOf] at h; exact ⟨h.1.symm, h.2.symm⟩
    refine ⟨79, _, rfl, fun _ _ => rfl, ?_⟩
    have e : outI i c k = foldE k d (.ok (fromR (2 ^ i.imm) (2 ^ i.imm))) (quoE quoR) := by unfold outI; rw [hn, hdt]; rfl
    rw [e]
    unfold foldE
    by_cases h0 : k.r d = noR
    · rw [needE_no h0]
      exact fold_dno i c k d 55 54 bf bg W hd hdn h0 hg hf
    · rw [needE_ok h0]
      have hdo := (hK d hdn).2
      have hdl := hK.le hdn
      have h2 : (fromR (2 ^ i.imm) (2 ^ i.imm)).least ≠ 0 := by show 2 ^ i.imm ≠ 0; omega
      have e2 : quoE quoR (k.r d) (fromR (2 ^ i.imm) (2 ^ i.imm)) = .ok (quoR (k.r d) (fromR (2 ^ i.imm) (2 ^ i.imm))) := by unfold quoE; rw [if_neg h2]
      simp only [bindE_ok, e2]
      exact fold_ok i c k d 55 54 bf bg (fromR (2 ^ i.imm) (2 ^ i.imm)) (quoR (k.r d) (fromR (2 ^ i.imm) (2 ^ i.imm))) W hd hdn h0 hg hf (fun _ _ => rfl) (fun X _ => power_any i c k X hp) (fun _ _ => rfl) (fun X _ => quo_ok _ _ hdo hpo X h2 (Nat.le_refl _))
  | fn h => exact absurd h (by decide)
set_option maxRecDepth 10000 in
set_option maxHeartbeats 1000000 in
theorem make_14 (i : Ins) (c : Int) (k : Kn) (v : Value) (W : World) (hop : i.op = 14) (hm : MayI i) (hK : KnR k) (hv : IsMake W 14 v) : MakeOk i c k v W := by
  obtain ⟨hm, him⟩ := hm
  unfold MayP at hm
  have hn : i.op.toNat = 14 := by omega
  obtain ⟨d, hd⟩ : ∃ d : Nat, i.dst = (d : Int) := ⟨i.dst.toNat, by omega⟩
  have hdn : d < 10 := by omega
  have hdt : i.dst.toNat = d := by omega
  obtain ⟨s, hs⟩ : ∃ s : Nat, i.src = (s : Int) := ⟨i.src.toNat, by omega⟩
  have hsn : s < 10 := by omega
  have hst : i.src.toNat = s := by omega
  cases hv with
  | set G b h hb => simp [setOf] at h
  | fold F G bf bg h hf hg =>
    obtain ⟨rfl, rfl⟩ : F = 55 ∧ G = 46 := by simp [foldOf] at h; exact ⟨h.1.symm, h.2.symm⟩
    refine ⟨79, _, rfl, fun _ _ => rfl, ?_⟩
    have e : outI i c k = foldE k d (needE k s) (quoE quoR) := by unfold outI; rw [hn, hdt, hst]; rfl
    rw [e]
    unfold foldE
    by_cases h0 : k.r d = noR
    · rw [needE_no h0]
      exact fold_dno i c k d 55 46 bf bg W hd hdn h0 hg hf
    · rw [needE_ok h0]
      have hdo := (hK d hdn).2
      have hdl := hK.le hdn
      by_cases h1 : k.r s = noR
      · rw [needE_no h1]
        exact fold_ono i c k d 55 46 bf bg .unset W hd hdn h0 hg hf (fun _ _ => rfl) (fun X _ => src_no i c k s X hs hsn h1)
      · rw [needE_ok h1]
        have hso := (hK s hsn).2
        have hsl := hK.le hsn
        by_cases h2 : (k.r s).least = 0
        · have e2 : quoE quoR (k.r d) (k.r s) = .error .zero := by unfold quoE; rw [if_pos h2]
          simp only [bindE_ok, e2, bindE_error]
          exact fold_fno i c k d 55 46 bf bg (k.r s) .zero W hd hdn h0 hg hf (fun _ _ => rfl) (fun X _ => src_ok i c k s X hs hsn h1) (fun _ _ => rfl) (fun X _ => quo_no _ _ X h2)
        · have e2 : quoE quoR (k.r d) (k.r s) = .ok (quoR (k.r d) (k.r s)) := by unfold quoE; rw [if_neg h2]
          simp only [bindE_ok, e2]
          exact fold_ok i c k d 55 46 bf bg (k.r s) (quoR (k.r d) (k.r s)) W hd hdn h0 hg hf (fun _ _ => rfl) (fun X _ => src_ok i c k s X hs hsn h1) (fun _ _ => rfl) (fun X _ => quo_ok _ _ hdo hso X h2 hsl)
  | fn h => exact absurd h (by decide)
set_option maxRecDepth 10000 in
set_option maxHeartbeats 1000000 in
theorem make_15 (i : Ins) (c : Int) (k : Kn) (v : Value) (W : World) (hop : i.op = 15) (hm : MayI i) (hK : KnR k) (hv : IsMake W 15 v) : MakeOk i c k v W := by
  obtain ⟨hm, him⟩ := hm
  unfold MayP at hm
  have hn : i.op.toNat = 15 := by omega
  obtain ⟨d, hd⟩ : ∃ d : Nat, i.dst = (d : Int) := ⟨i.dst.toNat, by omega⟩
  have hdn : d < 10 := by omega
  have hdt : i.dst.toNat = d := by omega
  obtain ⟨s, hs⟩ : ∃ s : Nat, i.src = (s : Int) := ⟨i.src.toNat, by omega⟩
  have hsn : s < 10 := by omega
  have hst : i.src.toNat = s := by omega
  cases hv with
  | set G b h hb => simp [setOf] at h
  | fold F G bf bg h hf hg =>
    obtain ⟨rfl, rfl⟩ : F = 56 ∧ G = 46 := by simp [foldOf] at h; exact ⟨h.1.symm, h.2.symm⟩
    refine ⟨79, _, rfl, fun _ _ => rfl, ?_⟩
    have e : outI i c k = foldE k d (needE k s) (quoE restR) := by unfold outI; rw [hn, hdt, hst]; rfl
    rw [e]
    unfold foldE
    by_cases h0 : k.r d = noR
    · rw [needE_no h0]
      exact fold_dno i c k d 56 46 bf bg W hd hdn h0 hg hf
    · rw [needE_ok h0]
      have hdo := (hK d hdn).2
      have hdl := hK.le hdn
      by_cases h1 : k.r s = noR
      · rw [needE_no h1]
        exact fold_ono i c k d 56 46 bf bg .unset W hd hdn h0 hg hf (fun _ _ => rfl) (fun X _ => src_no i c k s X hs hsn h1)
      · rw [needE_ok h1]
        have hso := (hK s hsn).2
        have hsl := hK.le hsn
        by_cases h2 : (k.r s).least = 0
        · have e2 : quoE restR (k.r d) (k.r s) = .error .zero := by unfold quoE; rw [if_pos h2]
          simp only [bindE_ok, e2, bindE_error]
          exact fold_fno i c k d 56 46 bf bg (k.r s) .zero W hd hdn h0 hg hf (fun _ _ => rfl) (fun X _ => src_ok i c k s X hs hsn h1) (fun _ _ => rfl) (fun X _ => rest_no _ _ X h2)
        · have e2 : quoE restR (k.r d) (k.r s) = .ok (restR (k.r d) (k.r s)) := by unfold quoE; rw [if_neg h2]
          simp only [bindE_ok, e2]
          exact fold_ok i c k d 56 46 bf bg (k.r s) (restR (k.r d) (k.r s)) W hd hdn h0 hg hf (fun _ _ => rfl) (fun X _ => src_ok i c k s X hs hsn h1) (fun _ _ => rfl) (fun X _ => rest_ok _ _ hdo hso X h2 hsl)
  | fn h => exact absurd h (by decide)
end Go.Proofs.YtodkehpldlmgaaaDoor
/- Bytes of the context and of the scratch that are loaded. -/
namespace Go.Proofs.YtodkehpldlmgaaaDoor
open Go.RowKit
set_option maxRecDepth 10000 in
set_option maxHeartbeats 2000000 in
theorem ldc_ok (i : Ins) (c : Int) (k : Kn) (d : Nat) (s : Nat) (off : Int) (w : World) (hdst : i.dst = (d : Int)) (hdn : d < 10) (hsrc : i.src = (s : Int)) (hsn : s < 10) (hs0 : k.r s ≠ noR) (hok : (k.r s).Ok) (ho : i.off = off) (ho1 : -32768 ≤ off) (ho2 : off ≤ 32767) (hf : fits (k.r s) off c = true) :
    Calls Tryd.prog 57 #[.agg (stA i c k)] w fun e w' => e = .returned (two (k.set d (fromR 0 255)) noK) ∧ Below w.heap.size w w' := by
  obtain ⟨W0, hW0⟩ : ∃ W0, W0 = ((w.alloc (.cells (stA i c k) 82)).alloc (.cells noK.a 43)).alloc (.cells noK.a 43) := ⟨_, rfl⟩
  obtain ⟨hst, h3, h4, hB0, hz0⟩ := ways_world i c k w W0 hW0
  have HZ : Hid (W0.heap.size = w.heap.size + 3) := hz0
  clear hz0
  go_enter Tryd.func57, Tryd.ntmps57
  go_upto_region 1 with fail
  refine named2 (p := fun X => Code.wp _ _ _ _ X) ?_
  intro W9 hW9
  have hW : W0 = W9 := hW0.trans hW9.symm
  subst hW
  clear hW9 hW0
  refine wp_region_inv (Φ := fun l vs X => Vals (fun q => match q with | 0 => some (.agg (stA i c k)) | 1 => some (.agg (stA i c k)) | 2 => some ((k.r s).v) | 3 => some (.pointer (some ⟨w.heap.size, 5, none⟩)) | 4 => some (.int .i64 c) | 5 => some (.tuple #[]) | _ => none) l vs ∧ Below W0.heap.size W0 X) (PQ := fun _ _ => False)
    (by kernel_rfl) (by kernel_rfl) (by kernel_rfl) (by kernel_rfl) ⟨Vals.none _ _, ((Below.refl _ _).drew)⟩ ?hop ?hend (fun _ _ _ _ h => h.elim)
  case hop =>
    refine ⟨?_, ?_, ?_, ?_, ?_, ?_, trivial⟩
    · intro l vs X A hA ⟨hV, hS⟩ hl hd hcl
      have hX := hS
      have hB := hX
      have a1 := eO hA 1 rfl
      refine show_value (v := .agg (stA i c k)) (X' := X) (run_ld 82 _ rfl _ a1 (ld_row (l := stCells i c k) (has_whole (hst.below hB hst.lt)) (by kernel_rfl))) ⟨hV.upd (fun _ h => Option.some.inj h), (hX)⟩
    · intro l vs X A hA ⟨hV, hS⟩ hl hd hcl
      have hX := hS
      have hB := hX
      have a1 := eO hA 1 rfl
      refine show_value (v := .agg (stA i c k)) (X' := X) (run_ld 82 _ rfl _ a1 (ld_row (l := stCells i c k) (has_whole (hst.below hB hst.lt)) (by kernel_rfl))) ⟨hV.upd (fun _ h => Option.some.inj h), (hX)⟩
    · intro l vs X A hA ⟨hV, hS⟩ hl hd hcl
      have hX := hS
      have hB := hX
      have a5 := eN hA 5 1 hd hV rfl
      have aF0 : A.eval (.func 46) = .func (.func 46) #[] #[] := rfl
      refine show_call (f := 46) (args := #[.agg (stA i c k)]) ?_ (src_ok i c k s X hsrc hsn hs0) ?_
      · generalize A.eval = ρ at *
        clear hA hl hd hcl hV hS
        go_simp
      · rintro e X' ⟨rfl, hB1⟩
        exact .inl ⟨_, rfl, hV.upd (fun _ h => Option.some.inj h), (hX.trans (hB1.mono hX.size))⟩
    · intro l vs X A hA ⟨hV, hS⟩ hl hd hcl
      have hX := hS
      have hB := hX
      have a1 := eO hA 1 rfl
      refine show_value (v := .pointer (some ⟨w.heap.size, 5, none⟩)) (X' := X) ?_ ⟨hV.upd (fun _ h => Option.some.inj h), (hX)⟩
      generalize A.eval = ρ at *
      clear hA hl hd hcl hV hS
      go_simp
    · intro l vs X A hA ⟨hV, hS⟩ hl hd hcl
      have hX := hS
      have hB := hX
      have a7 := eN hA 7 3 hd hV rfl
      have cc : X.cell? ⟨w.heap.size, 5, none⟩ = some (.int .i64 c) := (hst.below hB hst.lt).cell 5
      refine show_value (v := .int .i64 c) (X' := X) ?_ ⟨hV.upd (fun _ h => Option.some.inj h), (hX)⟩
      generalize A.eval = ρ at *
      clear hA hl hd hcl hV hS
      go_simp
    · intro l vs X A hA ⟨hV, hS⟩ hl hd hcl
      have hX := hS
      have hB := hX
      have a4 := eN hA 4 0 hd hV rfl
      have a6 := eN hA 6 2 hd hV rfl
      have a8 := eN hA 8 4 hd hV rfl
      have aF0 : A.eval (.func 86) = .func (.func 86) #[] #[] := rfl
      refine show_call (f := 86) (args := #[.agg (stA i c k), (k.r s).v, .int .i64 (c)]) ?_ (inside_ok i c k (k.r s) (c) off X hok ho ho1 ho2 hf) ?_
      · generalize A.eval = ρ at *
        clear hA hl hd hcl hV hS
        go_simp
      · rintro e X' ⟨rfl, hB1⟩
        exact .inl ⟨_, rfl, hV.upd (fun _ h => Option.some.inj h), (hX.trans (hB1.mono hX.size))⟩
  case hend =>
    intro l vs X hl ⟨hV, hS⟩
    have hX := hS
    have v0 := hV 0 _ (hl 0 (by decide)) rfl
    have v1 := hV 1 _ (hl 1 (by decide)) rfl
    have v2 := hV 2 _ (hl 2 (by decide)) rfl
    have v3 := hV 3 _ (hl 3 (by decide)) rfl
    have v4 := hV 4 _ (hl 4 (by decide)) rfl
    have v5 := hV 5 _ (hl 5 (by decide)) rfl
    clear hV hS hl
    simp only [canonL, if_true, v0, v1, v2, v3, v4, v5]
    clear v0 v1 v2 v3 v4 v5
    go_simp
    have hst1 := hst.below hX hst.lt
    have h31 := h3.below hX h3.lt
    have h41 := h4.below hX h4.lt
    have hB01 : Below w.heap.size w X := hB0.trans (hX.mono hB0.size)
    have hw1 := hB01.size
    obtain ⟨W1, hW1⟩ : ∃ W1, W1 = X := ⟨_, rfl⟩
    subst hW1
    clear hst h3 h4 hX hB0
    go_upto_region 2 with fail
    refine wp_region_inv (Φ := fun l vs X => Vals (fun q => match q with | 0 => some (.agg (stA i c k)) | 1 => some ((fromR 0 255).v) | 2 => some (.agg (k.set d (fromR 0 255)).a) | 3 => some (.agg noK.a) | _ => none) l vs ∧ Pre2 4 5 (Below W1.heap.size W1) (fun X => Below w.heap.size w X ∧ Has X w.heap.size (stA i c k) 82 ∧ Has X (w.heap.size + 1) ((k.set d (fromR 0 255)).a) 43 ∧ Has X (w.heap.size + 2) (noK.a) 43) (fun X => Below w.heap.size w X ∧ Has X w.heap.size (stA i c k) 82 ∧ Has X (w.heap.size + 1) ((k.set d (fromR 0 255)).a) 43 ∧ Has X (w.heap.size + 2) (noK.a) 43) l X) (PQ := fun _ _ => False)
      (by kernel_rfl) (by kernel_rfl) (by kernel_rfl) (by kernel_rfl) ⟨Vals.none _ _, Pre2.start ((Below.refl _ _).drew)⟩ ?hop ?hend (fun _ _ _ _ h => h.elim)
    case hop =>
      refine ⟨?_, ?_, ?_, ?_, ?_, ?_, trivial⟩
      · intro l vs X A hA ⟨hV, hS⟩ hl hd hcl
        have hj := nY 4 hcl hl
        have hk := nY 5 hcl hl
        have hX := hS.1 hj
        have hB := hX
        have a1 := eO hA 1 rfl
        refine show_value (v := .agg (stA i c k)) (X' := X) (run_ld 82 _ rfl _ a1 (ld_row (l := stCells i c k) (has_whole (hst1.below hB hst1.lt)) (by kernel_rfl))) ⟨hV.upd (fun _ h => Option.some.inj h), Pre2.keep hj hk (by decide) (by decide) (hX)⟩
      · intro l vs X A hA ⟨hV, hS⟩ hl hd hcl
        have hj := nY 4 hcl hl
        have hk := nY 5 hcl hl
        have hX := hS.1 hj
        have hB := hX
        have aF0 : A.eval (.func 87) = .func (.func 87) #[] #[] := rfl
        refine show_call (f := 87) (args := #[]) ?_ (octet_any X) ?_
        · generalize A.eval = ρ at *
          clear hA hl hd hcl hV hS
          go_simp
        · rintro e X' ⟨rfl, hB1⟩
          exact .inl ⟨_, rfl, hV.upd (fun _ h => Option.some.inj h), Pre2.keep hj hk (by decide) (by decide) (hX.trans (hB1.mono hX.size))⟩
      · intro l vs X A hA ⟨hV, hS⟩ hl hd hcl
        have hj := nY 4 hcl hl
        have hk := nY 5 hcl hl
        have hX := hS.1 hj
        have hB := hX
        have a10 := eN hA 10 0 hd hV rfl
        have a11 := eN hA 11 1 hd hV rfl
        have aF0 : A.eval (.func 76) = .func (.func 76) #[] #[] := rfl
        refine show_call (f := 76) (args := #[.agg (stA i c k), (fromR 0 255).v]) ?_ (with_any i c k d (fromR 0 255) X hdst hdn) ?_
        · generalize A.eval = ρ at *
          clear hA hl hd hcl hV hS
          go_simp
        · rintro e X' ⟨rfl, hB1⟩
          exact .inl ⟨_, rfl, hV.upd (fun _ h => Option.some.inj h), Pre2.keep hj hk (by decide) (by decide) (hX.trans (hB1.mono hX.size))⟩
      · intro l vs X A hA ⟨hV, hS⟩ hl hd hcl
        have hk := nY 5 hcl hl
        have a3 := eO hA 3 rfl
        cases hj : l 4 with
        | true =>
          have hX := hS.2.1 hj hk
          exact show_value (v := .agg noK.a) (X' := X) (run_ld 43 _ rfl _ a3 (ld_row (l := noK.cells) (has_whole hX.2.2.2) (by kernel_rfl))) ⟨hV.upd (fun _ h => Option.some.inj h), Pre2.keepMid hj hk (by decide) (by decide) hX⟩
        | false =>
          have hX := hS.1 hj
          have hB := hX
          exact show_value (v := .agg noK.a) (X' := X) (run_ld 43 _ rfl _ a3 (ld_row (l := noK.cells) (has_whole (h41.below hB h41.lt)) (by kernel_rfl))) ⟨hV.upd (fun _ h => Option.some.inj h), Pre2.keep hj hk (by decide) (by decide) hX⟩
      · intro l vs X A hA ⟨hV, hS⟩ hl hd hcl
        have hk := nY 5 hcl hl
        have hX := hS.1 hl
        have a2 := eO hA 2 rfl
        have a12 := eN hA 12 2 hd hV rfl
        refine show_skip (X' := X.setRow (w.heap.size + 1) ((k.set d (fromR 0 255)).a)) (run_st_row 43 _ _ rfl (w.heap.size + 1) _ _ _ a2 a12 (h31.below hX h31.lt) (by kernel_rfl) (by kernel_rfl) (Kn.a_one _)) ⟨hV.upd (fun _ h => by cases h), Pre2.mid hk (by decide) ⟨setRow_below (hB01.trans (hX.mono hB01.size)) (by omega) _, (hst1.below hX hst1.lt).ex (setRow_ex _ _ _) (by omega), setRow_has (h31.below hX h31.lt) _, (h41.below hX h41.lt).ex (setRow_ex _ _ _) (by omega)⟩⟩
      · intro l vs X A hA ⟨hV, hS⟩ hl hd hcl
        have hX := hS.2.1 (hd 4 (by kernel_rfl)) hl
        have a3 := eO hA 3 rfl
        have a13 := eN hA 13 3 hd hV rfl
        refine show_skip (X' := X.setRow (w.heap.size + 2) (noK.a)) (run_st_row 43 _ _ rfl (w.heap.size + 2) _ _ _ a3 a13 (hX.2.2.2) (by kernel_rfl) (by kernel_rfl) (Kn.a_one _)) ⟨hV.upd (fun _ h => by cases h), Pre2.last (hd 4 (by kernel_rfl)) ⟨setRow_below hX.1 (by omega) _, hX.2.1.ex (setRow_ex _ _ _) (by omega), hX.2.2.1.ex (setRow_ex _ _ _) (by omega), setRow_has hX.2.2.2 _⟩⟩
    case hend =>
      intro l vs X hl ⟨hV, hS⟩
      have hX := hS.2.2 (hl 5 (by decide))
      have v0 := hV 0 _ (hl 0 (by decide)) rfl
      have v1 := hV 1 _ (hl 1 (by decide)) rfl
      have v2 := hV 2 _ (hl 2 (by decide)) rfl
      have v3 := hV 3 _ (hl 3 (by decide)) rfl
      clear hV hS hl
      simp only [canonL, if_true, v0, v1, v2, v3]
      clear v0 v1 v2 v3
      go_simp
      obtain ⟨hB9, _, h5, h6⟩ := hX
      go_wp2_with fail
      refine bodyPost_ret (results_rows2 rfl _ _ (w.heap.size + 1) (w.heap.size + 2) 43 _ _ _ rfl rfl h5 h6 Tryd.underlying43 rfl (by kernel_rfl) (by kernel_rfl)) rfl ?_
      exact ⟨rfl, hB9⟩
set_option maxRecDepth 10000 in
set_option maxHeartbeats 2000000 in
theorem ldc_sno (i : Ins) (c : Int) (k : Kn) (s : Nat) (w : World) (hsrc : i.src = (s : Int)) (hsn : s < 10) (hs0 : k.r s = noR) :
    Calls Tryd.prog 57 #[.agg (stA i c k)] w fun e w' => e = .panicked Wrong.unset.entry ∧ Below w.heap.size w w' := by
  obtain ⟨W0, hW0⟩ : ∃ W0, W0 = ((w.alloc (.cells (stA i c k) 82)).alloc (.cells noK.a 43)).alloc (.cells noK.a 43) := ⟨_, rfl⟩
  obtain ⟨hst, h3, h4, hB0, hz0⟩ := ways_world i c k w W0 hW0
  have HZ : Hid (W0.heap.size = w.heap.size + 3) := hz0
  clear hz0
  go_enter Tryd.func57, Tryd.ntmps57
  go_upto_region 1 with fail
  refine named2 (p := fun X => Code.wp _ _ _ _ X) ?_
  intro W9 hW9
  have hW : W0 = W9 := hW0.trans hW9.symm
  subst hW
  clear hW9 hW0
  refine wp_region_inv (Φ := fun l vs X => Vals (fun q => match q with | 0 => some (.agg (stA i c k)) | 1 => some (.agg (stA i c k)) | 3 => some (.pointer (some ⟨w.heap.size, 5, none⟩)) | 4 => some (.int .i64 c) | _ => none) l vs ∧ Below W0.heap.size W0 X ∧ l 2 = false) (PQ := fun q X => q = Wrong.unset.entry ∧ Below W0.heap.size W0 X)
    (by kernel_rfl) (by kernel_rfl) (by kernel_rfl) (by kernel_rfl) ⟨Vals.none _ _, ((Below.refl _ _).drew), rfl⟩ ?hop ?hend (fun c a X hq hp => ⟨hq, by rw [hp.1]; exact ⟨rfl, hB0.trans (hp.2.mono hB0.size)⟩⟩)
  case hop =>
    refine ⟨?_, ?_, ?_, ?_, ?_, ?_, trivial⟩
    · intro l vs X A hA ⟨hV, hS, hN2⟩ hl hd hcl
      have hX := hS
      have hB := hX
      have a1 := eO hA 1 rfl
      refine show_value (v := .agg (stA i c k)) (X' := X) (run_ld 82 _ rfl _ a1 (ld_row (l := stCells i c k) (has_whole (hst.below hB hst.lt)) (by kernel_rfl))) ⟨hV.upd (fun _ h => Option.some.inj h), (hX), (upd_other _ _ (by decide)).trans hN2⟩
    · intro l vs X A hA ⟨hV, hS, hN2⟩ hl hd hcl
      have hX := hS
      have hB := hX
      have a1 := eO hA 1 rfl
      refine show_value (v := .agg (stA i c k)) (X' := X) (run_ld 82 _ rfl _ a1 (ld_row (l := stCells i c k) (has_whole (hst.below hB hst.lt)) (by kernel_rfl))) ⟨hV.upd (fun _ h => Option.some.inj h), (hX), (upd_other _ _ (by decide)).trans hN2⟩
    · intro l vs X A hA ⟨hV, hS, hN2⟩ hl hd hcl
      have hX := hS
      have hB := hX
      have a5 := eN hA 5 1 hd hV rfl
      have aF0 : A.eval (.func 46) = .func (.func 46) #[] #[] := rfl
      refine show_call (f := 46) (args := #[.agg (stA i c k)]) ?_ (src_no i c k s X hsrc hsn hs0) ?_
      · generalize A.eval = ρ at *
        clear hA hl hd hcl hV hS
        go_simp
      · rintro e X' ⟨rfl, hB1⟩
        exact .inr ⟨_, rfl, rfl, hB.trans (hB1.mono (Nat.le_trans hB.size (Nat.le_refl _)))⟩
    · intro l vs X A hA ⟨hV, hS, hN2⟩ hl hd hcl
      have hX := hS
      have hB := hX
      have a1 := eO hA 1 rfl
      refine show_value (v := .pointer (some ⟨w.heap.size, 5, none⟩)) (X' := X) ?_ ⟨hV.upd (fun _ h => Option.some.inj h), (hX), (upd_other _ _ (by decide)).trans hN2⟩
      generalize A.eval = ρ at *
      clear hA hl hd hcl hV hS
      go_simp
    · intro l vs X A hA ⟨hV, hS, hN2⟩ hl hd hcl
      have hX := hS
      have hB := hX
      have a7 := eN hA 7 3 hd hV rfl
      have cc : X.cell? ⟨w.heap.size, 5, none⟩ = some (.int .i64 c) := (hst.below hB hst.lt).cell 5
      refine show_value (v := .int .i64 c) (X' := X) ?_ ⟨hV.upd (fun _ h => Option.some.inj h), (hX), (upd_other _ _ (by decide)).trans hN2⟩
      generalize A.eval = ρ at *
      clear hA hl hd hcl hV hS
      go_simp
    · intro l vs X A hA ⟨hV, hS, hN2⟩ hl hd hcl
      have hX := hS
      have hB := hX
      exact absurd (hd 2 (by kernel_rfl)) (by rw [hN2]; decide)
  case hend =>
    intro l vs X hl ⟨hV, hS, hN2⟩
    exact absurd (hl 2 (by decide)) (by rw [hN2]; decide)
set_option maxRecDepth 10000 in
set_option maxHeartbeats 2000000 in
theorem ldc_bno (i : Ins) (c : Int) (k : Kn) (s : Nat) (off : Int) (w : World) (hsrc : i.src = (s : Int)) (hsn : s < 10) (hs0 : k.r s ≠ noR) (hok : (k.r s).Ok) (ho : i.off = off) (ho1 : -32768 ≤ off) (ho2 : off ≤ 32767) (hf : fits (k.r s) off c = false) :
    Calls Tryd.prog 57 #[.agg (stA i c k)] w fun e w' => e = .panicked Wrong.beyond.entry ∧ Below w.heap.size w w' := by
  obtain ⟨W0, hW0⟩ : ∃ W0, W0 = ((w.alloc (.cells (stA i c k) 82)).alloc (.cells noK.a 43)).alloc (.cells noK.a 43) := ⟨_, rfl⟩
  obtain ⟨hst, h3, h4, hB0, hz0⟩ := ways_world i c k w W0 hW0
  have HZ : Hid (W0.heap.size = w.heap.size + 3) := hz0
  clear hz0
  go_enter Tryd.func57, Tryd.ntmps57
  go_upto_region 1 with fail
  refine named2 (p := fun X => Code.wp _ _ _ _ X) ?_
  intro W9 hW9
  have hW : W0 = W9 := hW0.trans hW9.symm
  subst hW
  clear hW9 hW0
  refine wp_region_inv (Φ := fun l vs X => Vals (fun q => match q with | 0 => some (.agg (stA i c k)) | 1 => some (.agg (stA i c k)) | 2 => some ((k.r s).v) | 3 => some (.pointer (some ⟨w.heap.size, 5, none⟩)) | 4 => some (.int .i64 c) | _ => none) l vs ∧ Below W0.heap.size W0 X ∧ l 5 = false) (PQ := fun q X => q = Wrong.beyond.entry ∧ Below W0.heap.size W0 X)
    (by kernel_rfl) (by kernel_rfl) (by kernel_rfl) (by kernel_rfl) ⟨Vals.none _ _, ((Below.refl _ _).drew), rfl⟩ ?hop ?hend (fun c a X hq hp => ⟨hq, by rw [hp.1]; exact ⟨rfl, hB0.trans (hp.2.mono hB0.size)⟩⟩)
  case hop =>
    refine ⟨?_, ?_, ?_, ?_, ?_, ?_, trivial⟩
    · intro l vs X A hA ⟨hV, hS, hN5⟩ hl hd hcl
      have hX := hS
      have hB := hX
      have a1 := eO hA 1 rfl
      refine show_value (v := .agg (stA i c k)) (X' := X) (run_ld 82 _ rfl _ a1 (ld_row (l := stCells i c k) (has_whole (hst.below hB hst.lt)) (by kernel_rfl))) ⟨hV.upd (fun _ h => Option.some.inj h), (hX), (upd_other _ _ (by decide)).trans hN5⟩
    · intro l vs X A hA ⟨hV, hS, hN5⟩ hl hd hcl
      have hX := hS
      have hB := hX
      have a1 := eO hA 1 rfl
      refine show_value (v := .agg (stA i c k)) (X' := X) (run_ld 82 _ rfl _ a1 (ld_row (l := stCells i c k) (has_whole (hst.below hB hst.lt)) (by kernel_rfl))) ⟨hV.upd (fun _ h => Option.some.inj h), (hX), (upd_other _ _ (by decide)).trans hN5⟩
    · intro l vs X A hA ⟨hV, hS, hN5⟩ hl hd hcl
      have hX := hS
      have hB := hX
      have a5 := eN hA 5 1 hd hV rfl
      have aF0 : A.eval (.func 46) = .func (.func 46) #[] #[] := rfl
      refine show_call (f := 46) (args := #[.agg (stA i c k)]) ?_ (src_ok i c k s X hsrc hsn hs0) ?_
      · generalize A.eval = ρ at *
        clear hA hl hd hcl hV hS
        go_simp
      · rintro e X' ⟨rfl, hB1⟩
        exact .inl ⟨_, rfl, hV.upd (fun _ h => Option.some.inj h), (hX.trans (hB1.mono hX.size)), (upd_other _ _ (by decide)).trans hN5⟩
    · intro l vs X A hA ⟨hV, hS, hN5⟩ hl hd hcl
      have hX := hS
      have hB := hX
      have a1 := eO hA 1 rfl
      refine show_value (v := .pointer (some ⟨w.heap.size, 5, none⟩)) (X' := X) ?_ ⟨hV.upd (fun _ h => Option.some.inj h), (hX), (upd_other _ _ (by decide)).trans hN5⟩
      generalize A.eval = ρ at *
      clear hA hl hd hcl hV hS
      go_simp
    · intro l vs X A hA ⟨hV, hS, hN5⟩ hl hd hcl
      have hX := hS
      have hB := hX
      have a7 := eN hA 7 3 hd hV rfl
      have cc : X.cell? ⟨w.heap.size, 5, none⟩ = some (.int .i64 c) := (hst.below hB hst.lt).cell 5
      refine show_value (v := .int .i64 c) (X' := X) ?_ ⟨hV.upd (fun _ h => Option.some.inj h), (hX), (upd_other _ _ (by decide)).trans hN5⟩
      generalize A.eval = ρ at *
      clear hA hl hd hcl hV hS
      go_simp
    · intro l vs X A hA ⟨hV, hS, hN5⟩ hl hd hcl
      have hX := hS
      have hB := hX
      have a4 := eN hA 4 0 hd hV rfl
      have a6 := eN hA 6 2 hd hV rfl
      have a8 := eN hA 8 4 hd hV rfl
      have aF0 : A.eval (.func 86) = .func (.func 86) #[] #[] := rfl
      refine show_call (f := 86) (args := #[.agg (stA i c k), (k.r s).v, .int .i64 (c)]) ?_ (inside_no i c k (k.r s) (c) off X hok ho ho1 ho2 hf) ?_
      · generalize A.eval = ρ at *
        clear hA hl hd hcl hV hS
        go_simp
      · rintro e X' ⟨rfl, hB1⟩
        exact .inr ⟨_, rfl, rfl, hB.trans (hB1.mono (Nat.le_trans hB.size (Nat.le_refl _)))⟩
  case hend =>
    intro l vs X hl ⟨hV, hS, hN5⟩
    exact absurd (hl 5 (by decide)) (by rw [hN5]; decide)
set_option maxRecDepth 10000 in
set_option maxHeartbeats 2000000 in
theorem lds_ok (i : Ins) (c : Int) (k : Kn) (d : Nat) (s : Nat) (off : Int) (w : World) (hdst : i.dst = (d : Int)) (hdn : d < 10) (hsrc : i.src = (s : Int)) (hsn : s < 10) (hs0 : k.r s ≠ noR) (hok : (k.r s).Ok) (ho : i.off = off) (ho1 : -32768 ≤ off) (ho2 : off ≤ 32767) (hf : fits (k.r s) off 64 = true) :
    Calls Tryd.prog 58 #[.agg (stA i c k)] w fun e w' => e = .returned (two (k.set d (fromR 0 255)) noK) ∧ Below w.heap.size w w' := by
  obtain ⟨W0, hW0⟩ : ∃ W0, W0 = ((w.alloc (.cells (stA i c k) 82)).alloc (.cells noK.a 43)).alloc (.cells noK.a 43) := ⟨_, rfl⟩
  obtain ⟨hst, h3, h4, hB0, hz0⟩ := ways_world i c k w W0 hW0
  have HZ : Hid (W0.heap.size = w.heap.size + 3) := hz0
  clear hz0
  go_enter Tryd.func58, Tryd.ntmps58
  go_upto_region 1 with fail
  refine named2 (p := fun X => Code.wp _ _ _ _ X) ?_
  intro W9 hW9
  have hW : W0 = W9 := hW0.trans hW9.symm
  subst hW
  clear hW9 hW0
  refine wp_region_inv (Φ := fun l vs X => Vals (fun q => match q with | 0 => some (.agg (stA i c k)) | 1 => some (.agg (stA i c k)) | 2 => some ((k.r s).v) | 3 => some (.tuple #[]) | _ => none) l vs ∧ Below W0.heap.size W0 X) (PQ := fun _ _ => False)
    (by kernel_rfl) (by kernel_rfl) (by kernel_rfl) (by kernel_rfl) ⟨Vals.none _ _, ((Below.refl _ _).drew)⟩ ?hop ?hend (fun _ _ _ _ h => h.elim)
  case hop =>
    refine ⟨?_, ?_, ?_, ?_, trivial⟩
    · intro l vs X A hA ⟨hV, hS⟩ hl hd hcl
      have hX := hS
      have hB := hX
      have a1 := eO hA 1 rfl
      refine show_value (v := .agg (stA i c k)) (X' := X) (run_ld 82 _ rfl _ a1 (ld_row (l := stCells i c k) (has_whole (hst.below hB hst.lt)) (by kernel_rfl))) ⟨hV.upd (fun _ h => Option.some.inj h), (hX)⟩
    · intro l vs X A hA ⟨hV, hS⟩ hl hd hcl
      have hX := hS
      have hB := hX
      have a1 := eO hA 1 rfl
      refine show_value (v := .agg (stA i c k)) (X' := X) (run_ld 82 _ rfl _ a1 (ld_row (l := stCells i c k) (has_whole (hst.below hB hst.lt)) (by kernel_rfl))) ⟨hV.upd (fun _ h => Option.some.inj h), (hX)⟩
    · intro l vs X A hA ⟨hV, hS⟩ hl hd hcl
      have hX := hS
      have hB := hX
      have a5 := eN hA 5 1 hd hV rfl
      have aF0 : A.eval (.func 46) = .func (.func 46) #[] #[] := rfl
      refine show_call (f := 46) (args := #[.agg (stA i c k)]) ?_ (src_ok i c k s X hsrc hsn hs0) ?_
      · generalize A.eval = ρ at *
        clear hA hl hd hcl hV hS
        go_simp
      · rintro e X' ⟨rfl, hB1⟩
        exact .inl ⟨_, rfl, hV.upd (fun _ h => Option.some.inj h), (hX.trans (hB1.mono hX.size))⟩
    · intro l vs X A hA ⟨hV, hS⟩ hl hd hcl
      have hX := hS
      have hB := hX
      have a4 := eN hA 4 0 hd hV rfl
      have a6 := eN hA 6 2 hd hV rfl
      have aF0 : A.eval (.func 86) = .func (.func 86) #[] #[] := rfl
      have aC0 : A.eval (.const (.int .i64 64)) = (.int .i64 64) := rfl
      refine show_call (f := 86) (args := #[.agg (stA i c k), (k.r s).v, .int .i64 (64)]) ?_ (inside_ok i c k (k.r s) (64) off X hok ho ho1 ho2 hf) ?_
      · generalize A.eval = ρ at *
        clear hA hl hd hcl hV hS
        go_simp
      · rintro e X' ⟨rfl, hB1⟩
        exact .inl ⟨_, rfl, hV.upd (fun _ h => Option.some.inj h), (hX.trans (hB1.mono hX.size))⟩
  case hend =>
    intro l vs X hl ⟨hV, hS⟩
    have hX := hS
    have v0 := hV 0 _ (hl 0 (by decide)) rfl
    have v1 := hV 1 _ (hl 1 (by decide)) rfl
    have v2 := hV 2 _ (hl 2 (by decide)) rfl
    have v3 := hV 3 _ (hl 3 (by decide)) rfl
    clear hV hS hl
    simp only [canonL, if_true, v0, v1, v2, v3]
    clear v0 v1 v2 v3
    go_simp
    have hst1 := hst.below hX hst.lt
    have h31 := h3.below hX h3.lt
    have h41 := h4.below hX h4.lt
    have hB01 : Below w.heap.size w X := hB0.trans (hX.mono hB0.size)
    have hw1 := hB01.size
    obtain ⟨W1, hW1⟩ : ∃ W1, W1 = X := ⟨_, rfl⟩
    subst hW1
    clear hst h3 h4 hX hB0
    go_upto_region 2 with fail
    refine wp_region_inv (Φ := fun l vs X => Vals (fun q => match q with | 0 => some (.agg (stA i c k)) | 1 => some ((fromR 0 255).v) | 2 => some (.agg (k.set d (fromR 0 255)).a) | 3 => some (.agg noK.a) | _ => none) l vs ∧ Pre2 4 5 (Below W1.heap.size W1) (fun X => Below w.heap.size w X ∧ Has X w.heap.size (stA i c k) 82 ∧ Has X (w.heap.size + 1) ((k.set d (fromR 0 255)).a) 43 ∧ Has X (w.heap.size + 2) (noK.a) 43) (fun X => Below w.heap.size w X ∧ Has X w.heap.size (stA i c k) 82 ∧ Has X (w.heap.size + 1) ((k.set d (fromR 0 255)).a) 43 ∧ Has X (w.heap.size + 2) (noK.a) 43) l X) (PQ := fun _ _ => False)
      (by kernel_rfl) (by kernel_rfl) (by kernel_rfl) (by kernel_rfl) ⟨Vals.none _ _, Pre2.start ((Below.refl _ _).drew)⟩ ?hop ?hend (fun _ _ _ _ h => h.elim)
    case hop =>
      refine ⟨?_, ?_, ?_, ?_, ?_, ?_, trivial⟩
      · intro l vs X A hA ⟨hV, hS⟩ hl hd hcl
        have hj := nY 4 hcl hl
        have hk := nY 5 hcl hl
        have hX := hS.1 hj
        have hB := hX
        have a1 := eO hA 1 rfl
        refine show_value (v := .agg (stA i c k)) (X' := X) (run_ld 82 _ rfl _ a1 (ld_row (l := stCells i c k) (has_whole (hst1.below hB hst1.lt)) (by kernel_rfl))) ⟨hV.upd (fun _ h => Option.some.inj h), Pre2.keep hj hk (by decide) (by decide) (hX)⟩
      · intro l vs X A hA ⟨hV, hS⟩ hl hd hcl
        have hj := nY 4 hcl hl
        have hk := nY 5 hcl hl
        have hX := hS.1 hj
        have hB := hX
        have aF0 : A.eval (.func 87) = .func (.func 87) #[] #[] := rfl
        refine show_call (f := 87) (args := #[]) ?_ (octet_any X) ?_
        · generalize A.eval = ρ at *
          clear hA hl hd hcl hV hS
          go_simp
        · rintro e X' ⟨rfl, hB1⟩
          exact .inl ⟨_, rfl, hV.upd (fun _ h => Option.some.inj h), Pre2.keep hj hk (by decide) (by decide) (hX.trans (hB1.mono hX.size))⟩
      · intro l vs X A hA ⟨hV, hS⟩ hl hd hcl
        have hj := nY 4 hcl hl
        have hk := nY 5 hcl hl
        have hX := hS.1 hj
        have hB := hX
        have a8 := eN hA 8 0 hd hV rfl
        have a9 := eN hA 9 1 hd hV rfl
        have aF0 : A.eval (.func 76) = .func (.func 76) #[] #[] := rfl
        refine show_call (f := 76) (args := #[.agg (stA i c k), (fromR 0 255).v]) ?_ (with_any i c k d (fromR 0 255) X hdst hdn) ?_
        · generalize A.eval = ρ at *
          clear hA hl hd hcl hV hS
          go_simp
        · rintro e X' ⟨rfl, hB1⟩
          exact .inl ⟨_, rfl, hV.upd (fun _ h => Option.some.inj h), Pre2.keep hj hk (by decide) (by decide) (hX.trans (hB1.mono hX.size))⟩
      · intro l vs X A hA ⟨hV, hS⟩ hl hd hcl
        have hk := nY 5 hcl hl
        have a3 := eO hA 3 rfl
        cases hj : l 4 with
        | true =>
          have hX := hS.2.1 hj hk
          exact show_value (v := .agg noK.a) (X' := X) (run_ld 43 _ rfl _ a3 (ld_row (l := noK.cells) (has_whole hX.2.2.2) (by kernel_rfl))) ⟨hV.upd (fun _ h => Option.some.inj h), Pre2.keepMid hj hk (by decide) (by decide) hX⟩
        | false =>
          have hX := hS.1 hj
          have hB := hX
          exact show_value (v := .agg noK.a) (X' := X) (run_ld 43 _ rfl _ a3 (ld_row (l := noK.cells) (has_whole (h41.below hB h41.lt)) (by kernel_rfl))) ⟨hV.upd (fun _ h => Option.some.inj h), Pre2.keep hj hk (by decide) (by decide) hX⟩
      · intro l vs X A hA ⟨hV, hS⟩ hl hd hcl
        have hk := nY 5 hcl hl
        have hX := hS.1 hl
        have a2 := eO hA 2 rfl
        have a10 := eN hA 10 2 hd hV rfl
        refine show_skip (X' := X.setRow (w.heap.size + 1) ((k.set d (fromR 0 255)).a)) (run_st_row 43 _ _ rfl (w.heap.size + 1) _ _ _ a2 a10 (h31.below hX h31.lt) (by kernel_rfl) (by kernel_rfl) (Kn.a_one _)) ⟨hV.upd (fun _ h => by cases h), Pre2.mid hk (by decide) ⟨setRow_below (hB01.trans (hX.mono hB01.size)) (by omega) _, (hst1.below hX hst1.lt).ex (setRow_ex _ _ _) (by omega), setRow_has (h31.below hX h31.lt) _, (h41.below hX h41.lt).ex (setRow_ex _ _ _) (by omega)⟩⟩
      · intro l vs X A hA ⟨hV, hS⟩ hl hd hcl
        have hX := hS.2.1 (hd 4 (by kernel_rfl)) hl
        have a3 := eO hA 3 rfl
        have a11 := eN hA 11 3 hd hV rfl
        refine show_skip (X' := X.setRow (w.heap.size + 2) (noK.a)) (run_st_row 43 _ _ rfl (w.heap.size + 2) _ _ _ a3 a11 (hX.2.2.2) (by kernel_rfl) (by kernel_rfl) (Kn.a_one _)) ⟨hV.upd (fun _ h => by cases h), Pre2.last (hd 4 (by kernel_rfl)) ⟨setRow_below hX.1 (by omega) _, hX.2.1.ex (setRow_ex _ _ _) (by omega), hX.2.2.1.ex (setRow_ex _ _ _) (by omega), setRow_has hX.2.2.2 _⟩⟩
    case hend =>
      intro l vs X hl ⟨hV, hS⟩
      have hX := hS.2.2 (hl 5 (by decide))
      have v0 := hV 0 _ (hl 0 (by decide)) rfl
      have v1 := hV 1 _ (hl 1 (by decide)) rfl
      have v2 := hV 2 _ (hl 2 (by decide)) rfl
      have v3 := hV 3 _ (hl 3 (by decide)) rfl
      clear hV hS hl
      simp only [canonL, if_true, v0, v1, v2, v3]
      clear v0 v1 v2 v3
      go_simp
      obtain ⟨hB9, _, h5, h6⟩ := hX
      go_wp2_with fail
      refine bodyPost_ret (results_rows2 rfl _ _ (w.heap.size + 1) (w.heap.size + 2) 43 _ _ _ rfl rfl h5 h6 Tryd.underlying43 rfl (by kernel_rfl) (by kernel_rfl)) rfl ?_
      exact ⟨rfl, hB9⟩
set_option maxRecDepth 10000 in
set_option maxHeartbeats 2000000 in
theorem lds_sno (i : Ins) (c : Int) (k : Kn) (s : Nat) (w : World) (hsrc : i.src = (s : Int)) (hsn : s < 10) (hs0 : k.r s = noR) :
    Calls Tryd.prog 58 #[.agg (stA i c k)] w fun e w' => e = .panicked Wrong.unset.entry ∧ Below w.heap.size w w' := by
  obtain ⟨W0, hW0⟩ : ∃ W0, W0 = ((w.alloc (.cells (stA i c k) 82)).alloc (.cells noK.a 43)).alloc (.cells noK.a 43) := ⟨_, rfl⟩
  obtain ⟨hst, h3, h4, hB0, hz0⟩ := ways_world i c k w W0 hW0
  have HZ : Hid (W0.heap.size = w.heap.size + 3) := hz0
  clear hz0
  go_enter Tryd.func58, Tryd.ntmps58
  go_upto_region 1 with fail
  refine named2 (p := fun X => Code.wp _ _ _ _ X) ?_
  intro W9 hW9
  have hW : W0 = W9 := hW0.trans hW9.symm
  subst hW
  clear hW9 hW0
  refine wp_region_inv (Φ := fun l vs X => Vals (fun q => match q with | 0 => some (.agg (stA i c k)) | 1 => some (.agg (stA i c k)) | _ => none) l vs ∧ Below W0.heap.size W0 X ∧ l 2 = false) (PQ := fun q X => q = Wrong.unset.entry ∧ Below W0.heap.size W0 X)
    (by kernel_rfl) (by kernel_rfl) (by kernel_rfl) (by kernel_rfl) ⟨Vals.none _ _, ((Below.refl _ _).drew), rfl⟩ ?hop ?hend (fun c a X hq hp => ⟨hq, by rw [hp.1]; exact ⟨rfl, hB0.trans (hp.2.mono hB0.size)⟩⟩)
  case hop =>
    refine ⟨?_, ?_, ?_, ?_, trivial⟩
    · intro l vs X A hA ⟨hV, hS, hN2⟩ hl hd hcl
      have hX := hS
      have hB := hX
      have a1 := eO hA 1 rfl
      refine show_value (v := .agg (stA i c k)) (X' := X) (run_ld 82 _ rfl _ a1 (ld_row (l := stCells i c k) (has_whole (hst.below hB hst.lt)) (by kernel_rfl))) ⟨hV.upd (fun _ h => Option.some.inj h), (hX), (upd_other _ _ (by decide)).trans hN2⟩
    · intro l vs X A hA ⟨hV, hS, hN2⟩ hl hd hcl
      have hX := hS
      have hB := hX
      have a1 := eO hA 1 rfl
      refine show_value (v := .agg (stA i c k)) (X' := X) (run_ld 82 _ rfl _ a1 (ld_row (l := stCells i c k) (has_whole (hst.below hB hst.lt)) (by kernel_rfl))) ⟨hV.upd (fun _ h => Option.some.inj h), (hX), (upd_other _ _ (by decide)).trans hN2⟩
    · intro l vs X A hA ⟨hV, hS, hN2⟩ hl hd hcl
      have hX := hS
      have hB := hX
      have a5 := eN hA 5 1 hd hV rfl
      have aF0 : A.eval (.func 46) = .func (.func 46) #[] #[] := rfl
      refine show_call (f := 46) (args := #[.agg (stA i c k)]) ?_ (src_no i c k s X hsrc hsn hs0) ?_
      · generalize A.eval = ρ at *
        clear hA hl hd hcl hV hS
        go_simp
      · rintro e X' ⟨rfl, hB1⟩
        exact .inr ⟨_, rfl, rfl, hB.trans (hB1.mono (Nat.le_trans hB.size (Nat.le_refl _)))⟩
    · intro l vs X A hA ⟨hV, hS, hN2⟩ hl hd hcl
      have hX := hS
      have hB := hX
      exact absurd (hd 2 (by kernel_rfl)) (by rw [hN2]; decide)
  case hend =>
    intro l vs X hl ⟨hV, hS, hN2⟩
    exact absurd (hl 2 (by decide)) (by rw [hN2]; decide)
set_option maxRecDepth 10000 in
set_option maxHeartbeats 2000000 in
theorem lds_bno (i : Ins) (c : Int) (k : Kn) (s : Nat) (off : Int) (w : World) (hsrc : i.src = (s : Int)) (hsn : s < 10) (hs0 : k.r s ≠ noR) (hok : (k.r s).Ok) (ho : i.off = off) (ho1 : -32768 ≤ off) (ho2 : off ≤ 32767) (hf : fits (k.r s) off 64 = false) :
    Calls Tryd.prog 58 #[.agg (stA i c k)] w fun e w' => e = .panicked Wrong.beyond.entry ∧ Below w.heap.size w w' := by
  obtain ⟨W0, hW0⟩ : ∃ W0, W0 = ((w.alloc (.cells (stA i c k) 82)).alloc (.cells noK.a 43)).alloc (.cells noK.a 43) := ⟨_, rfl⟩
  obtain ⟨hst, h3, h4, hB0, hz0⟩ := ways_world i c k w W0 hW0
  have HZ : Hid (W0.heap.size = w.heap.size + 3) := hz0
  clear hz0
  go_enter Tryd.func58, Tryd.ntmps58
  go_upto_region 1 with fail
  refine named2 (p := fun X => Code.wp _ _ _ _ X) ?_
  intro W9 hW9
  have hW : W0 = W9 := hW0.trans hW9.symm
  subst hW
  clear hW9 hW0
  refine wp_region_inv (Φ := fun l vs X => Vals (fun q => match q with | 0 => some (.agg (stA i c k)) | 1 => some (.agg (stA i c k)) | 2 => some ((k.r s).v) | _ => none) l vs ∧ Below W0.heap.size W0 X ∧ l 3 = false) (PQ := fun q X => q = Wrong.beyond.entry ∧ Below W0.heap.size W0 X)
    (by kernel_rfl) (by kernel_rfl) (by kernel_rfl) (by kernel_rfl) ⟨Vals.none _ _, ((Below.refl _ _).drew), rfl⟩ ?hop ?hend (fun c a X hq hp => ⟨hq, by rw [hp.1]; exact ⟨rfl, hB0.trans (hp.2.mono hB0.size)⟩⟩)
  case hop =>
    refine ⟨?_, ?_, ?_, ?_, trivial⟩
    · intro l vs X A hA ⟨hV, hS, hN3⟩ hl hd hcl
      have hX := hS
      have hB := hX
      have a1 := eO hA 1 rfl
      refine show_value (v := .agg (stA i c k)) (X' := X) (run_ld 82 _ rfl _ a1 (ld_row (l := stCells i c k) (has_whole (hst.below hB hst.lt)) (by kernel_rfl))) ⟨hV.upd (fun _ h => Option.some.inj h), (hX), (upd_other _ _ (by decide)).trans hN3⟩
    · intro l vs X A hA ⟨hV, hS, hN3⟩ hl hd hcl
      have hX := hS
      have hB := hX
      have a1 := eO hA 1 rfl
      refine show_value (v := .agg (stA i c k)) (X' := X) (run_ld 82 _ rfl _ a1 (ld_row (l := stCells i c k) (has_whole (hst.below hB hst.lt)) (by kernel_rfl))) ⟨hV.upd (fun _ h => Option.some.inj h), (hX), (upd_other _ _ (by decide)).trans hN3⟩
    · intro l vs X A hA ⟨hV, hS, hN3⟩ hl hd hcl
      have hX := hS
      have hB := hX
      have a5 := eN hA 5 1 hd hV rfl
      have aF0 : A.eval (.func 46) = .func (.func 46) #[] #[] := rfl
      refine show_call (f := 46) (args := #[.agg (stA i c k)]) ?_ (src_ok i c k s X hsrc hsn hs0) ?_
      · generalize A.eval = ρ at *
        clear hA hl hd hcl hV hS
        go_simp
      · rintro e X' ⟨rfl, hB1⟩
        exact .inl ⟨_, rfl, hV.upd (fun _ h => Option.some.inj h), (hX.trans (hB1.mono hX.size)), (upd_other _ _ (by decide)).trans hN3⟩
    · intro l vs X A hA ⟨hV, hS, hN3⟩ hl hd hcl
      have hX := hS
      have hB := hX
      have a4 := eN hA 4 0 hd hV rfl
      have a6 := eN hA 6 2 hd hV rfl
      have aF0 : A.eval (.func 86) = .func (.func 86) #[] #[] := rfl
      have aC0 : A.eval (.const (.int .i64 64)) = (.int .i64 64) := rfl
      refine show_call (f := 86) (args := #[.agg (stA i c k), (k.r s).v, .int .i64 (64)]) ?_ (inside_no i c k (k.r s) (64) off X hok ho ho1 ho2 hf) ?_
      · generalize A.eval = ρ at *
        clear hA hl hd hcl hV hS
        go_simp
      · rintro e X' ⟨rfl, hB1⟩
        exact .inr ⟨_, rfl, rfl, hB.trans (hB1.mono (Nat.le_trans hB.size (Nat.le_refl _)))⟩
  case hend =>
    intro l vs X hl ⟨hV, hS, hN3⟩
    exact absurd (hl 3 (by decide)) (by rw [hN3]; decide)
end Go.Proofs.YtodkehpldlmgaaaDoor
/- ja and exit. -/
namespace Go.Proofs.YtodkehpldlmgaaaDoor
open Go.RowKit
set_option maxRecDepth 10000 in
set_option maxHeartbeats 2000000 in
theorem ja_any (i : Ins) (c : Int) (k : Kn) (w : World) :
    Calls Tryd.prog 60 #[.agg (stA i c k)] w fun e w' => e = .returned (two noK k) ∧ Below w.heap.size w w' := by
  obtain ⟨W0, hW0⟩ : ∃ W0, W0 = ((w.alloc (.cells (stA i c k) 82)).alloc (.cells noK.a 43)).alloc (.cells noK.a 43) := ⟨_, rfl⟩
  obtain ⟨hst, h3, h4, hB0, hz0⟩ := ways_world i c k w W0 hW0
  have HZ : Hid (W0.heap.size = w.heap.size + 3) := hz0
  clear hz0
  go_enter Tryd.func60, Tryd.ntmps60
  go_upto_region 1 with fail
  refine named2 (p := fun X => Code.wp _ _ _ _ X) ?_
  intro W9 hW9
  have hW : W0 = W9 := hW0.trans hW9.symm
  subst hW
  clear hW9 hW0
  refine wp_region_inv (Φ := fun l vs X => Vals (fun q => match q with | 0 => some (.agg noK.a) | 1 => some (.pointer (some ⟨w.heap.size, 6, none⟩)) | 2 => some (.agg k.a) | _ => none) l vs ∧ Pre2 3 4 (Below W0.heap.size W0) (fun X => Below w.heap.size w X ∧ Has X w.heap.size (stA i c k) 82 ∧ Has X (w.heap.size + 1) (noK.a) 43 ∧ Has X (w.heap.size + 2) (noK.a) 43) (fun X => Below w.heap.size w X ∧ Has X w.heap.size (stA i c k) 82 ∧ Has X (w.heap.size + 1) (noK.a) 43 ∧ Has X (w.heap.size + 2) (k.a) 43) l X) (PQ := fun _ _ => False)
    (by kernel_rfl) (by kernel_rfl) (by kernel_rfl) (by kernel_rfl) ⟨Vals.none _ _, Pre2.start ((Below.refl _ _).drew)⟩ ?hop ?hend (fun _ _ _ _ h => h.elim)
  case hop =>
    refine ⟨?_, ?_, ?_, ?_, ?_, trivial⟩
    · intro l vs X A hA ⟨hV, hS⟩ hl hd hcl
      have hj := nY 3 hcl hl
      have hk := nY 4 hcl hl
      have hX := hS.1 hj
      have hB := hX
      have a2 := eO hA 2 rfl
      refine show_value (v := .agg noK.a) (X' := X) (run_ld 43 _ rfl _ a2 (ld_row (l := noK.cells) (has_whole (h3.below hB h3.lt)) (by kernel_rfl))) ⟨hV.upd (fun _ h => Option.some.inj h), Pre2.keep hj hk (by decide) (by decide) (hX)⟩
    · intro l vs X A hA ⟨hV, hS⟩ hl hd hcl
      have hk := nY 4 hcl hl
      have a1 := eO hA 1 rfl
      cases hj : l 3 with
      | true =>
        have hX := hS.2.1 hj hk
        exact show_value (v := .pointer (some ⟨w.heap.size, 6, none⟩)) (X' := X) (by generalize A.eval = ρ at *; clear hA hl hd hcl hV hS; go_simp) ⟨hV.upd (fun _ h => Option.some.inj h), Pre2.keepMid hj hk (by decide) (by decide) hX⟩
      | false =>
        have hX := hS.1 hj
        have hB := hX
        exact show_value (v := .pointer (some ⟨w.heap.size, 6, none⟩)) (X' := X) (by generalize A.eval = ρ at *; clear hA hl hd hcl hV hS; go_simp) ⟨hV.upd (fun _ h => Option.some.inj h), Pre2.keep hj hk (by decide) (by decide) hX⟩
    · intro l vs X A hA ⟨hV, hS⟩ hl hd hcl
      have hk := nY 4 hcl hl
      have a5 := eN hA 5 1 hd hV rfl
      cases hj : l 3 with
      | true =>
        have hX := hS.2.1 hj hk
        exact show_value (v := .agg k.a) (X' := X) (run_ld 43 _ rfl _ a5 (ld_row (l := k.cells) (st_range hX.2.1) (by kernel_rfl))) ⟨hV.upd (fun _ h => Option.some.inj h), Pre2.keepMid hj hk (by decide) (by decide) hX⟩
      | false =>
        have hX := hS.1 hj
        have hB := hX
        exact show_value (v := .agg k.a) (X' := X) (run_ld 43 _ rfl _ a5 (ld_row (l := k.cells) (st_range (hst.below hB hst.lt)) (by kernel_rfl))) ⟨hV.upd (fun _ h => Option.some.inj h), Pre2.keep hj hk (by decide) (by decide) hX⟩
    · intro l vs X A hA ⟨hV, hS⟩ hl hd hcl
      have hk := nY 4 hcl hl
      have hX := hS.1 hl
      have a2 := eO hA 2 rfl
      have a4 := eN hA 4 0 hd hV rfl
      refine show_skip (X' := X.setRow (w.heap.size + 1) (noK.a)) (run_st_row 43 _ _ rfl (w.heap.size + 1) _ _ _ a2 a4 (h3.below hX h3.lt) (by kernel_rfl) (by kernel_rfl) (Kn.a_one _)) ⟨hV.upd (fun _ h => by cases h), Pre2.mid hk (by decide) ⟨setRow_below (hB0.trans (hX.mono hB0.size)) (by omega) _, (hst.below hX hst.lt).ex (setRow_ex _ _ _) (by omega), setRow_has (h3.below hX h3.lt) _, (h4.below hX h4.lt).ex (setRow_ex _ _ _) (by omega)⟩⟩
    · intro l vs X A hA ⟨hV, hS⟩ hl hd hcl
      have hX := hS.2.1 (hd 3 (by kernel_rfl)) hl
      have a3 := eO hA 3 rfl
      have a6 := eN hA 6 2 hd hV rfl
      refine show_skip (X' := X.setRow (w.heap.size + 2) (k.a)) (run_st_row 43 _ _ rfl (w.heap.size + 2) _ _ _ a3 a6 (hX.2.2.2) (by kernel_rfl) (by kernel_rfl) (Kn.a_one _)) ⟨hV.upd (fun _ h => by cases h), Pre2.last (hd 3 (by kernel_rfl)) ⟨setRow_below hX.1 (by omega) _, hX.2.1.ex (setRow_ex _ _ _) (by omega), hX.2.2.1.ex (setRow_ex _ _ _) (by omega), setRow_has hX.2.2.2 _⟩⟩
  case hend =>
    intro l vs X hl ⟨hV, hS⟩
    have hX := hS.2.2 (hl 4 (by decide))
    have v0 := hV 0 _ (hl 0 (by decide)) rfl
    have v1 := hV 1 _ (hl 1 (by decide)) rfl
    have v2 := hV 2 _ (hl 2 (by decide)) rfl
    clear hV hS hl
    simp only [canonL, if_true, v0, v1, v2]
    clear v0 v1 v2
    go_simp
    obtain ⟨hB9, _, h5, h6⟩ := hX
    go_wp2_with fail
    refine bodyPost_ret (results_rows2 rfl _ _ (w.heap.size + 1) (w.heap.size + 2) 43 _ _ _ rfl rfl h5 h6 Tryd.underlying43 rfl (by kernel_rfl) (by kernel_rfl)) rfl ?_
    exact ⟨rfl, hB9⟩
set_option maxRecDepth 10000 in
set_option maxHeartbeats 2000000 in
theorem exit_ok (i : Ins) (c : Int) (k : Kn) (w : World) (h0 : k.r 0 ≠ noR) :
    Calls Tryd.prog 65 #[.agg (stA i c k)] w fun e w' => e = .returned (two noK noK) ∧ Below w.heap.size w w' := by
  obtain ⟨W0, hW0⟩ : ∃ W0, W0 = ((w.alloc (.cells (stA i c k) 82)).alloc (.cells noK.a 43)).alloc (.cells noK.a 43) := ⟨_, rfl⟩
  obtain ⟨hst, h3, h4, hB0, hz0⟩ := ways_world i c k w W0 hW0
  have HZ : Hid (W0.heap.size = w.heap.size + 3) := hz0
  clear hz0
  go_enter Tryd.func65, Tryd.ntmps65
  go_upto_region 1 with fail
  refine named2 (p := fun X => Code.wp _ _ _ _ X) ?_
  intro W9 hW9
  have hW : W0 = W9 := hW0.trans hW9.symm
  subst hW
  clear hW9 hW0
  have hq : ∀ X, _ := fun X => need_ok i c k 0 X (by decide) h0
  go_upto_region 2 with (first | refine wpList_load_row rfl 82 _ rfl w.heap.size rfl 82 (stA i c k) (0, 0) _ hst Tryd.underlying82 rfl (by kernel_rfl) ?_ | (go_at_call 78; refine (hq _).mono ?_; rintro e X ⟨rfl, hX⟩; clear hq))
  have hst1 := hst.below hX hst.lt
  have h31 := h3.below hX h3.lt
  have h41 := h4.below hX h4.lt
  have hB01 : Below w.heap.size w X := hB0.trans (hX.mono hB0.size)
  have hw1 := hB01.size
  obtain ⟨W1, hW1⟩ : ∃ W1, W1 = X := ⟨_, rfl⟩
  subst hW1
  clear hst h3 h4 hX hB0
  refine wp_region_inv (Φ := fun l vs X => Vals (fun q => match q with | 0 => some (.agg noK.a) | 1 => some (.agg noK.a) | _ => none) l vs ∧ Pre2 2 3 (Below W1.heap.size W1) (fun X => Below w.heap.size w X ∧ Has X w.heap.size (stA i c k) 82 ∧ Has X (w.heap.size + 1) (noK.a) 43 ∧ Has X (w.heap.size + 2) (noK.a) 43) (fun X => Below w.heap.size w X ∧ Has X w.heap.size (stA i c k) 82 ∧ Has X (w.heap.size + 1) (noK.a) 43 ∧ Has X (w.heap.size + 2) (noK.a) 43) l X) (PQ := fun _ _ => False)
    (by kernel_rfl) (by kernel_rfl) (by kernel_rfl) (by kernel_rfl) ⟨Vals.none _ _, Pre2.start ((Below.refl _ _).drew)⟩ ?hop ?hend (fun _ _ _ _ h => h.elim)
  case hop =>
    refine ⟨?_, ?_, ?_, ?_, trivial⟩
    · intro l vs X A hA ⟨hV, hS⟩ hl hd hcl
      have hj := nY 2 hcl hl
      have hk := nY 3 hcl hl
      have hX := hS.1 hj
      have hB := hX
      have a2 := eO hA 2 rfl
      refine show_value (v := .agg noK.a) (X' := X) (run_ld 43 _ rfl _ a2 (ld_row (l := noK.cells) (has_whole (h31.below hB h31.lt)) (by kernel_rfl))) ⟨hV.upd (fun _ h => Option.some.inj h), Pre2.keep hj hk (by decide) (by decide) (hX)⟩
    · intro l vs X A hA ⟨hV, hS⟩ hl hd hcl
      have hk := nY 3 hcl hl
      have a3 := eO hA 3 rfl
      cases hj : l 2 with
      | true =>
        have hX := hS.2.1 hj hk
        exact show_value (v := .agg noK.a) (X' := X) (run_ld 43 _ rfl _ a3 (ld_row (l := noK.cells) (has_whole hX.2.2.2) (by kernel_rfl))) ⟨hV.upd (fun _ h => Option.some.inj h), Pre2.keepMid hj hk (by decide) (by decide) hX⟩
      | false =>
        have hX := hS.1 hj
        have hB := hX
        exact show_value (v := .agg noK.a) (X' := X) (run_ld 43 _ rfl _ a3 (ld_row (l := noK.cells) (has_whole (h41.below hB h41.lt)) (by kernel_rfl))) ⟨hV.upd (fun _ h => Option.some.inj h), Pre2.keep hj hk (by decide) (by decide) hX⟩
    · intro l vs X A hA ⟨hV, hS⟩ hl hd hcl
      have hk := nY 3 hcl hl
      have hX := hS.1 hl
      have a2 := eO hA 2 rfl
      have a6 := eN hA 6 0 hd hV rfl
      refine show_skip (X' := X.setRow (w.heap.size + 1) (noK.a)) (run_st_row 43 _ _ rfl (w.heap.size + 1) _ _ _ a2 a6 (h31.below hX h31.lt) (by kernel_rfl) (by kernel_rfl) (Kn.a_one _)) ⟨hV.upd (fun _ h => by cases h), Pre2.mid hk (by decide) ⟨setRow_below (hB01.trans (hX.mono hB01.size)) (by omega) _, (hst1.below hX hst1.lt).ex (setRow_ex _ _ _) (by omega), setRow_has (h31.below hX h31.lt) _, (h41.below hX h41.lt).ex (setRow_ex _ _ _) (by omega)⟩⟩
    · intro l vs X A hA ⟨hV, hS⟩ hl hd hcl
      have hX := hS.2.1 (hd 2 (by kernel_rfl)) hl
      have a3 := eO hA 3 rfl
      have a7 := eN hA 7 1 hd hV rfl
      refine show_skip (X' := X.setRow (w.heap.size + 2) (noK.a)) (run_st_row 43 _ _ rfl (w.heap.size + 2) _ _ _ a3 a7 (hX.2.2.2) (by kernel_rfl) (by kernel_rfl) (Kn.a_one _)) ⟨hV.upd (fun _ h => by cases h), Pre2.last (hd 2 (by kernel_rfl)) ⟨setRow_below hX.1 (by omega) _, hX.2.1.ex (setRow_ex _ _ _) (by omega), hX.2.2.1.ex (setRow_ex _ _ _) (by omega), setRow_has hX.2.2.2 _⟩⟩
  case hend =>
    intro l vs X hl ⟨hV, hS⟩
    have hX := hS.2.2 (hl 3 (by decide))
    have v0 := hV 0 _ (hl 0 (by decide)) rfl
    have v1 := hV 1 _ (hl 1 (by decide)) rfl
    clear hV hS hl
    simp only [canonL, if_true, v0, v1]
    clear v0 v1
    go_simp
    obtain ⟨hB9, _, h5, h6⟩ := hX
    go_wp2_with fail
    refine bodyPost_ret (results_rows2 rfl _ _ (w.heap.size + 1) (w.heap.size + 2) 43 _ _ _ rfl rfl h5 h6 Tryd.underlying43 rfl (by kernel_rfl) (by kernel_rfl)) rfl ?_
    exact ⟨rfl, hB9⟩
set_option maxRecDepth 10000 in
set_option maxHeartbeats 2000000 in
theorem exit_no (i : Ins) (c : Int) (k : Kn) (w : World) (h0 : k.r 0 = noR) :
    Calls Tryd.prog 65 #[.agg (stA i c k)] w fun e w' => e = .panicked Wrong.unset.entry ∧ Below w.heap.size w w' := by
  obtain ⟨W0, hW0⟩ : ∃ W0, W0 = ((w.alloc (.cells (stA i c k) 82)).alloc (.cells noK.a 43)).alloc (.cells noK.a 43) := ⟨_, rfl⟩
  obtain ⟨hst, h3, h4, hB0, hz0⟩ := ways_world i c k w W0 hW0
  have HZ : Hid (W0.heap.size = w.heap.size + 3) := hz0
  clear hz0
  go_enter Tryd.func65, Tryd.ntmps65
  go_upto_region 1 with fail
  refine named2 (p := fun X => Code.wp _ _ _ _ X) ?_
  intro W9 hW9
  have hW : W0 = W9 := hW0.trans hW9.symm
  subst hW
  clear hW9 hW0
  have hq : ∀ X, _ := fun X => need_no i c k 0 X (by decide) h0
  go_upto_region 2 with (first | refine wpList_load_row rfl 82 _ rfl w.heap.size rfl 82 (stA i c k) (0, 0) _ hst Tryd.underlying82 rfl (by kernel_rfl) ?_ | (go_at_call 78; refine (hq _).mono ?_; rintro e X ⟨rfl, hX⟩; clear hq))
  exact ⟨rfl, rfl, hB0.trans (hX.mono hB0.size)⟩
end Go.Proofs.YtodkehpldlmgaaaDoor
/- The world of a jump: its step, both ways, two ranges of its own. -/
namespace Go.Proofs.YtodkehpldlmgaaaDoor
open Go.RowKit

structure JW (w : World) (i : Ins) (c : Int) (k n j : Kn) (b6 b7 : Nat) (d o : Rg) (X : World) : Prop where
  st : Has X w.heap.size (stA i c k) 82
  n : Has X (w.heap.size + 1) n.a 43
  j : Has X (w.heap.size + 2) j.a 43
  d : Has X b6 d.a 40
  o : Has X b7 o.a 40
  below : Below w.heap.size w X
  g6 : w.heap.size + 3 ≤ b6
  g7 : w.heap.size + 3 ≤ b7
variable {w : World} {i : Ins} {c : Int} {k n j : Kn} {b6 b7 : Nat} {d o : Rg} {X X' : World}
theorem JW.grow (h : JW w i c k n j b6 b7 d o X) (g : Below X.heap.size X X') : JW w i c k n j b6 b7 d o X' :=
  ⟨h.st.below g h.st.lt, h.n.below g h.n.lt, h.j.below g h.j.lt, h.d.below g h.d.lt, h.o.below g h.o.lt, h.below.trans (g.mono h.below.size), h.g6, h.g7⟩
theorem JW.setN (h : JW w i c k n j b6 b7 d o X) (n' : Kn) : JW w i c k n' j b6 b7 d o (X.setRow (w.heap.size + 1) n'.a) :=
  ⟨h.st.ex (setRow_ex _ _ _) (by omega), setRow_has h.n _, h.j.ex (setRow_ex _ _ _) (by omega), h.d.ex (setRow_ex _ _ _) (by have := h.g6; omega), h.o.ex (setRow_ex _ _ _) (by have := h.g7; omega), setRow_below h.below (by omega) _, h.g6, h.g7⟩
theorem JW.setJ (h : JW w i c k n j b6 b7 d o X) (j' : Kn) : JW w i c k n j' b6 b7 d o (X.setRow (w.heap.size + 2) j'.a) :=
  ⟨h.st.ex (setRow_ex _ _ _) (by omega), h.n.ex (setRow_ex _ _ _) (by omega), setRow_has h.j _, h.d.ex (setRow_ex _ _ _) (by have := h.g6; omega), h.o.ex (setRow_ex _ _ _) (by have := h.g7; omega), setRow_below h.below (by omega) _, h.g6, h.g7⟩
theorem JW.size (h : JW w i c k n j b6 b7 d o X) : w.heap.size + 3 ≤ X.heap.size := by have := h.d.lt; have := h.g6; omega
end Go.Proofs.YtodkehpldlmgaaaDoor
/- jeqi, where both ways are gone. -/
namespace Go.Proofs.YtodkehpldlmgaaaDoor
open Go.RowKit
set_option maxRecDepth 10000 in
set_option maxHeartbeats 2000000 in
theorem jeq_no (i : Ins) (c : Int) (k : Kn) (d : Nat) (w : World) (hdst : i.dst = (d : Int)) (hdn : d < 10) (hk0 : k.r d = noR) :
    Calls Tryd.prog 61 #[.agg (stA i c k)] w fun e w' => e = .panicked Wrong.unset.entry ∧ Below w.heap.size w w' := by
  obtain ⟨W0, hW0⟩ : ∃ W0, W0 = ((w.alloc (.cells (stA i c k) 82)).alloc (.cells noK.a 43)).alloc (.cells noK.a 43) := ⟨_, rfl⟩
  obtain ⟨hst, h3, h4, hB0, hz0⟩ := ways_world i c k w W0 hW0
  have HZ : Hid (W0.heap.size = w.heap.size + 3) := hz0
  clear hz0
  go_enter Tryd.func61, Tryd.ntmps61
  go_upto_region 1 with fail
  refine named2 (p := fun X => Code.wp _ _ _ _ X) ?_
  intro W9 hW9
  have hW : W0 = W9 := hW0.trans hW9.symm
  subst hW
  clear hW9 hW0
  refine wp_region_inv (Φ := fun l vs X => Vals (fun q => match q with | 0 => some (.agg (stA i c k)) | 2 => some (.agg (stA i c k)) | _ => none) l vs ∧ Ph2 6 7 (Two W0.heap.size 40 noR.a W0 4 5) (fun vs X => Both W0.heap.size 40 noR.a noR.a W0 (vs 4) (vs 5) X) (fun vs X => Both W0.heap.size 40 noR.a noR.a W0 (vs 4) (vs 5) X) l vs X ∧ l 1 = false) (PQ := fun q X => q = Wrong.unset.entry ∧ Below W0.heap.size W0 X)
    (by kernel_rfl) (by kernel_rfl) (by kernel_rfl) (by kernel_rfl) ⟨Vals.none _ _, Ph2.start (Two.start ((Below.refl _ _).drew) (Nat.le_refl _)), rfl⟩ ?hop ?hend (fun c a X hq hp => ⟨hq, by rw [hp.1]; exact ⟨rfl, hB0.trans (hp.2.mono hB0.size)⟩⟩)
  case hop =>
    refine ⟨?_, ?_, ?_, ?_, ?_, ?_, ?_, ?_, trivial⟩
    · intro l vs X A hA ⟨hV, hS, hN1⟩ hl hd hcl
      have hj := nY 6 hcl hl
      have hk := nY 7 hcl hl
      have hX := hS.1 hj
      have hB := hX.below
      have a1 := eO hA 1 rfl
      refine show_value (v := .agg (stA i c k)) (X' := X) (run_ld 82 _ rfl _ a1 (ld_row (l := stCells i c k) (has_whole (hst.below hB hst.lt)) (by kernel_rfl))) ⟨hV.upd (fun _ h => Option.some.inj h), Ph2.keep hj hk (by decide) (by decide) (hX.grow (Below.refl _ _) (by decide) (by decide) _), (upd_other _ _ (by decide)).trans hN1⟩
    · intro l vs X A hA ⟨hV, hS, hN1⟩ hl hd hcl
      have hj := nY 6 hcl hl
      have hk := nY 7 hcl hl
      have hX := hS.1 hj
      have hB := hX.below
      have a6 := eN hA 6 0 hd hV rfl
      have aF0 : A.eval (.func 80) = .func (.func 80) #[] #[] := rfl
      refine show_call (f := 80) (args := #[.agg (stA i c k)]) ?_ (dst_no i c k d X hdst hdn hk0) ?_
      · generalize A.eval = ρ at *
        clear hA hl hd hcl hV hS
        go_simp
      · rintro e X' ⟨rfl, hB1⟩
        exact .inr ⟨_, rfl, rfl, hB.trans (hB1.mono hX.size)⟩
    · intro l vs X A hA ⟨hV, hS, hN1⟩ hl hd hcl
      have hj := nY 6 hcl hl
      have hk := nY 7 hcl hl
      have hX := hS.1 hj
      have hB := hX.below
      have a1 := eO hA 1 rfl
      refine show_value (v := .agg (stA i c k)) (X' := X) (run_ld 82 _ rfl _ a1 (ld_row (l := stCells i c k) (has_whole (hst.below hB hst.lt)) (by kernel_rfl))) ⟨hV.upd (fun _ h => Option.some.inj h), Ph2.keep hj hk (by decide) (by decide) (hX.grow (Below.refl _ _) (by decide) (by decide) _), (upd_other _ _ (by decide)).trans hN1⟩
    · intro l vs X A hA ⟨hV, hS, hN1⟩ hl hd hcl
      have hj := nY 6 hcl hl
      have hk := nY 7 hcl hl
      have hX := hS.1 hj
      have hB := hX.below
      exact absurd (hd 1 (by kernel_rfl)) (by rw [hN1]; decide)
    · intro l vs X A hA ⟨hV, hS, hN1⟩ hl hd hcl
      have hj := nY 6 hcl hl
      have hk := nY 7 hcl hl
      have hX := hS.1 hj
      have hB := hX.below
      refine show_value (v := .pointer (some ⟨X.heap.size, 0, none⟩)) (X' := X.alloc (.cells noR.a 40)) ?_ ⟨hV.upd (fun _ h => by cases h), Ph2.keep hj hk (by decide) (by decide) (hX.mkFst (by decide)), (upd_other _ _ (by decide)).trans hN1⟩
      generalize A.eval = ρ at *
      clear hA hl hd hcl hV hS
      rfl
    · intro l vs X A hA ⟨hV, hS, hN1⟩ hl hd hcl
      have hj := nY 6 hcl hl
      have hk := nY 7 hcl hl
      have hX := hS.1 hj
      have hB := hX.below
      refine show_value (v := .pointer (some ⟨X.heap.size, 0, none⟩)) (X' := X.alloc (.cells noR.a 40)) ?_ ⟨hV.upd (fun _ h => by cases h), Ph2.keep hj hk (by decide) (by decide) (hX.mkSnd (by decide)), (upd_other _ _ (by decide)).trans hN1⟩
      generalize A.eval = ρ at *
      clear hA hl hd hcl hV hS
      rfl
    · intro l vs X A hA ⟨hV, hS, hN1⟩ hl hd hcl
      have hk := nY 7 hcl hl
      have hX := hS.1 hl
      exact absurd (hd 1 (by kernel_rfl)) (by rw [hN1]; decide)
    · intro l vs X A hA ⟨hV, hS, hN1⟩ hl hd hcl
      have hX := hS.2.1 (hd 6 (by kernel_rfl)) hl
      exact absurd (hd 1 (by kernel_rfl)) (by rw [hN1]; decide)
  case hend =>
    intro l vs X hl ⟨hV, hS, hN1⟩
    exact absurd (hl 1 (by decide)) (by rw [hN1]; decide)
set_option maxRecDepth 10000 in
set_option maxHeartbeats 2000000 in
theorem jeq_11 (i : Ins) (c : Int) (k : Kn) (d : Nat) (w : World) (hdst : i.dst = (d : Int)) (hdn : d < 10) (hk0 : k.r d ≠ noR) (hok : (k.r d).Ok) (hh : hasR (k.r d) i.imm = true) (hq : decide (k.r d = fromR i.imm i.imm) = false) (hn1 : ¬ (i.imm = (k.r d).least ∧ (k.r d).least = 4294967295)) (hn2 : ¬ (i.imm ≠ (k.r d).least ∧ i.imm = (k.r d).great ∧ (k.r d).great = 0)) :
    Calls Tryd.prog 61 #[.agg (stA i c k)] w fun e w' => e = .returned (two (k.set d (witR (k.r d) i.imm)) (k.set d (fromR i.imm i.imm))) ∧ Below w.heap.size w w' := by
  obtain ⟨W0, hW0⟩ : ∃ W0, W0 = ((w.alloc (.cells (stA i c k) 82)).alloc (.cells noK.a 43)).alloc (.cells noK.a 43) := ⟨_, rfl⟩
  obtain ⟨hst, h3, h4, hB0, hz0⟩ := ways_world i c k w W0 hW0
  have HZ : Hid (W0.heap.size = w.heap.size + 3) := hz0
  clear hz0
  go_enter Tryd.func61, Tryd.ntmps61
  go_upto_region 1 with fail
  refine named2 (p := fun X => Code.wp _ _ _ _ X) ?_
  intro W9 hW9
  have hW : W0 = W9 := hW0.trans hW9.symm
  subst hW
  clear hW9 hW0
  refine wp_region_inv (Φ := fun l vs X => Vals (fun q => match q with | 0 => some (.agg (stA i c k)) | 1 => some ((k.r d).v) | 2 => some (.agg (stA i c k)) | 3 => some ((fromR i.imm i.imm).v) | _ => none) l vs ∧ Ph2 6 7 (Two W0.heap.size 40 noR.a W0 4 5) (fun vs X => Both W0.heap.size 40 (k.r d).a noR.a W0 (vs 4) (vs 5) X) (fun vs X => Both W0.heap.size 40 (k.r d).a (fromR i.imm i.imm).a W0 (vs 4) (vs 5) X) l vs X) (PQ := fun _ _ => False)
    (by kernel_rfl) (by kernel_rfl) (by kernel_rfl) (by kernel_rfl) ⟨Vals.none _ _, Ph2.start (Two.start ((Below.refl _ _).drew) (Nat.le_refl _))⟩ ?hop ?hend (fun _ _ _ _ h => h.elim)
  case hop =>
    refine ⟨?_, ?_, ?_, ?_, ?_, ?_, ?_, ?_, trivial⟩
    · intro l vs X A hA ⟨hV, hS⟩ hl hd hcl
      have hj := nY 6 hcl hl
      have hk := nY 7 hcl hl
      have hX := hS.1 hj
      have hB := hX.below
      have a1 := eO hA 1 rfl
      refine show_value (v := .agg (stA i c k)) (X' := X) (run_ld 82 _ rfl _ a1 (ld_row (l := stCells i c k) (has_whole (hst.below hB hst.lt)) (by kernel_rfl))) ⟨hV.upd (fun _ h => Option.some.inj h), Ph2.keep hj hk (by decide) (by decide) (hX.grow (Below.refl _ _) (by decide) (by decide) _)⟩
    · intro l vs X A hA ⟨hV, hS⟩ hl hd hcl
      have hj := nY 6 hcl hl
      have hk := nY 7 hcl hl
      have hX := hS.1 hj
      have hB := hX.below
      have a6 := eN hA 6 0 hd hV rfl
      have aF0 : A.eval (.func 80) = .func (.func 80) #[] #[] := rfl
      refine show_call (f := 80) (args := #[.agg (stA i c k)]) ?_ (dst_ok i c k d X hdst hdn hk0) ?_
      · generalize A.eval = ρ at *
        clear hA hl hd hcl hV hS
        go_simp
      · rintro e X' ⟨rfl, hB1⟩
        exact .inl ⟨_, rfl, hV.upd (fun _ h => Option.some.inj h), Ph2.keep hj hk (by decide) (by decide) (hX.grow hB1 (by decide) (by decide) _)⟩
    · intro l vs X A hA ⟨hV, hS⟩ hl hd hcl
      have hj := nY 6 hcl hl
      have hk := nY 7 hcl hl
      have hX := hS.1 hj
      have hB := hX.below
      have a1 := eO hA 1 rfl
      refine show_value (v := .agg (stA i c k)) (X' := X) (run_ld 82 _ rfl _ a1 (ld_row (l := stCells i c k) (has_whole (hst.below hB hst.lt)) (by kernel_rfl))) ⟨hV.upd (fun _ h => Option.some.inj h), Ph2.keep hj hk (by decide) (by decide) (hX.grow (Below.refl _ _) (by decide) (by decide) _)⟩
    · intro l vs X A hA ⟨hV, hS⟩ hl hd hcl
      have hj := nY 6 hcl hl
      have hk := nY 7 hcl hl
      have hX := hS.1 hj
      have hB := hX.below
      have a8 := eN hA 8 2 hd hV rfl
      have aF0 : A.eval (.func 45) = .func (.func 45) #[] #[] := rfl
      refine show_call (f := 45) (args := #[.agg (stA i c k)]) ?_ (imm_any i c k X) ?_
      · generalize A.eval = ρ at *
        clear hA hl hd hcl hV hS
        go_simp
      · rintro e X' ⟨rfl, hB1⟩
        exact .inl ⟨_, rfl, hV.upd (fun _ h => Option.some.inj h), Ph2.keep hj hk (by decide) (by decide) (hX.grow hB1 (by decide) (by decide) _)⟩
    · intro l vs X A hA ⟨hV, hS⟩ hl hd hcl
      have hj := nY 6 hcl hl
      have hk := nY 7 hcl hl
      have hX := hS.1 hj
      have hB := hX.below
      refine show_value (v := .pointer (some ⟨X.heap.size, 0, none⟩)) (X' := X.alloc (.cells noR.a 40)) ?_ ⟨hV.upd (fun _ h => by cases h), Ph2.keep hj hk (by decide) (by decide) (hX.mkFst (by decide))⟩
      generalize A.eval = ρ at *
      clear hA hl hd hcl hV hS
      rfl
    · intro l vs X A hA ⟨hV, hS⟩ hl hd hcl
      have hj := nY 6 hcl hl
      have hk := nY 7 hcl hl
      have hX := hS.1 hj
      have hB := hX.below
      refine show_value (v := .pointer (some ⟨X.heap.size, 0, none⟩)) (X' := X.alloc (.cells noR.a 40)) ?_ ⟨hV.upd (fun _ h => by cases h), Ph2.keep hj hk (by decide) (by decide) (hX.mkSnd (by decide))⟩
      generalize A.eval = ρ at *
      clear hA hl hd hcl hV hS
      rfl
    · intro l vs X A hA ⟨hV, hS⟩ hl hd hcl
      have hk := nY 7 hcl hl
      have hX := hS.1 hl
      have a4 := eval_new hA 4 4 (by kernel_rfl) (by kernel_rfl) (by kernel_rfl) (hd 4 (by kernel_rfl)) (rfl : vs 4 = vs 4)
      have a7 := eN hA 7 1 hd hV rfl
      obtain ⟨b, hb, hH, hT⟩ := (hX.both (hd 4 (by kernel_rfl)) (hd 5 (by kernel_rfl))).setFst (x' := (k.r d).a)
      rw [hb] at a4
      refine show_skip (run_st_row 40 _ _ rfl b _ _ _ a4 a7 hH (by kernel_rfl) (by kernel_rfl) (Rg.a_one _)) ⟨hV.upd (fun _ h => by cases h), Ph2.mid hk (by decide) ?_⟩
      exact hT
    · intro l vs X A hA ⟨hV, hS⟩ hl hd hcl
      have hX := hS.2.1 (hd 6 (by kernel_rfl)) hl
      have a5 := eval_new hA 5 5 (by kernel_rfl) (by kernel_rfl) (by kernel_rfl) (hd 5 (by kernel_rfl)) (rfl : vs 5 = vs 5)
      have a9 := eN hA 9 3 hd hV rfl
      obtain ⟨b, hb, hH, hT⟩ := hX.setSnd (y' := (fromR i.imm i.imm).a)
      rw [hb] at a5
      refine show_skip (run_st_row 40 _ _ rfl b _ _ _ a5 a9 hH (by kernel_rfl) (by kernel_rfl) (Rg.a_one _)) ⟨hV.upd (fun _ h => by cases h), Ph2.last (hd 6 (by kernel_rfl)) ?_⟩
      exact hT
  case hend =>
    intro l vs X hl ⟨hV, hS⟩
    have hX := hS.2.2 (hl 7 (by decide))
    have v0 := hV 0 _ (hl 0 (by decide)) rfl
    have v1 := hV 1 _ (hl 1 (by decide)) rfl
    have v2 := hV 2 _ (hl 2 (by decide)) rfl
    have v3 := hV 3 _ (hl 3 (by decide)) rfl
    clear hV hS hl
    obtain ⟨b6, b7, u6, u7, g6, g7, hne, hb6, hb7, hB9⟩ := hX
    simp only [canonL, if_true, v0, v1, v2, v3, u6, u7]
    clear v0 v1 v2 v3 u6 u7
    go_simp
    have hJ : JW w i c k (noK) (noK) b6 b7 (k.r d) (fromR i.imm i.imm) X := ⟨hst.below hB9 hst.lt, h3.below hB9 h3.lt, h4.below hB9 h4.lt, hb6, hb7, hB0.trans (hB9.mono hB0.size), by have := HZ.out; omega, by have := HZ.out; omega⟩
    obtain ⟨W1, hren⟩ : ∃ Z, Z = X := ⟨_, rfl⟩
    subst hren
    clear hst h3 h4 hb6 hb7 hB9 g6 g7 hB0 HZ
    have hz1 := hJ.size
    go_upto_region 2 with fail
    have hc : ∀ X, Calls Tryd.prog 88 #[(k.r d).v, .int .u32 (i.imm : Int)] X fun e w' => e = .returned (.bool true) ∧ Below X.heap.size X w' := fun X => by rw [← hh]; exact has_any _ _ X hok
    have c4 : W1.cell? ⟨w.heap.size, 4, none⟩ = some (.int .u32 (i.imm : Int)) := hJ.st.cell 4
    have hd6 := hJ.d
    go_upto_region 3 with (first | refine wpList_load_row rfl 40 _ rfl b6 rfl 40 ((k.r d).a) (0, 0) _ hd6 Tryd.underlying40 rfl (by kernel_rfl) ?_ | (go_at_call 88; refine (hc _).mono ?_; rintro e W2 ⟨rfl, hB2⟩; clear c4 hd6 hc))
    replace hJ := hJ.grow hB2
    clear hB2 hz1
    have hz2 := hJ.size
    have hw : ∀ X, _ := fun X => with_any i c k d (fromR i.imm i.imm) X hdst hdn
    have hs6 := hJ.st
    have ho7 := hJ.o
    go_upto_region 4 with (first | refine wpList_load_row rfl 82 _ rfl w.heap.size rfl 82 (stA i c k) (0, 0) _ hs6 Tryd.underlying82 rfl (by kernel_rfl) ?_ | refine wpList_load_row rfl 40 _ rfl b7 rfl 40 ((fromR i.imm i.imm).a) (0, 0) _ ho7 Tryd.underlying40 rfl (by kernel_rfl) ?_ | (go_at_call 76; refine (hw _).mono ?_; rintro e W3 ⟨rfl, hB3⟩; clear hs6 ho7 hw; replace hJ := hJ.grow hB3; have hjj := hJ.j) | refine wpList_store_row rfl 43 _ _ rfl (w.heap.size + 2) (k.set d (fromR i.imm i.imm)).a rfl rfl 43 noK.a hjj (by kernel_rfl) (by kernel_rfl) (Kn.a_one _) ?_)
    replace hJ := hJ.setJ (k.set d (fromR i.imm i.imm))
    clear hB3 hjj hz2
    generalize W3.setRow (w.heap.size + 2) (k.set d (fromR i.imm i.imm)).a = W4 at *
    have hz4 := hJ.size
    have hd6 := hJ.d
    have ho7 := hJ.o
    have HQ : Hid ((!decide (k.r d = fromR i.imm i.imm)) = true) := by show _ = _; rw [hq]; rfl
    go_upto_region 5 with (first | refine wpList_load_row rfl 40 _ rfl b6 rfl 40 ((k.r d).a) (0, 0) _ hd6 Tryd.underlying40 rfl (by kernel_rfl) ?_ | refine wpList_load_row rfl 40 _ rfl b7 rfl 40 ((fromR i.imm i.imm).a) (0, 0) _ ho7 Tryd.underlying40 rfl (by kernel_rfl) ?_ | (refine wpList_val rfl (run_neq _ _ rfl (k.r d) (fromR i.imm i.imm) rfl rfl) ?_; rw [HQ.out]))
    clear hd6 ho7
    refine wp_region_inv (Φ := fun l vs X => Vals (fun q => match q with | 0 => some (.agg (stA i c k)) | 1 => some ((k.r d).v) | 2 => some (.pointer (some ⟨w.heap.size, 0, none⟩)) | 3 => some (.pointer (some ⟨w.heap.size, 4, none⟩)) | 4 => some (.int .u32 (i.imm : Int)) | 5 => some ((witR (k.r d) i.imm).v) | 6 => some (.agg (k.set d (witR (k.r d) i.imm)).a) | _ => none) l vs ∧ Pre1 7 (Below W4.heap.size W4) (JW w i c k (k.set d (witR (k.r d) i.imm)) (k.set d (fromR i.imm i.imm)) b6 b7 (k.r d) (fromR i.imm i.imm)) l X) (PQ := fun _ _ => False)
      (by kernel_rfl) (by kernel_rfl) (by kernel_rfl) (by kernel_rfl) ⟨Vals.none _ _, Pre1.start ((Below.refl _ _).drew)⟩ ?hop ?hend (fun _ _ _ _ h => h.elim)
    case hop =>
      refine ⟨?_, ?_, ?_, ?_, ?_, ?_, ?_, ?_, trivial⟩
      · intro l vs X A hA ⟨hV, hS⟩ hl hd hcl
        have hk := nY 7 hcl hl
        have hX := hS.1 hk
        have hB := hX
        have a1 := eO hA 1 rfl
        refine show_value (v := .agg (stA i c k)) (X' := X) (run_ld 82 _ rfl _ a1 (ld_row (l := stCells i c k) (has_whole (hJ.grow hB).st) (by kernel_rfl))) ⟨hV.upd (fun _ h => Option.some.inj h), Pre1.keep hk (by decide) (hX)⟩
      · intro l vs X A hA ⟨hV, hS⟩ hl hd hcl
        have hk := nY 7 hcl hl
        have hX := hS.1 hk
        have hB := hX
        have a4 := eO hA 4 rfl
        refine show_value (v := (k.r d).v) (X' := X) (run_ld 40 _ rfl _ a4 (ld_row (l := (k.r d).cells) (has_whole (hJ.grow hB).d) (by kernel_rfl))) ⟨hV.upd (fun _ h => Option.some.inj h), Pre1.keep hk (by decide) (hX)⟩
      · intro l vs X A hA ⟨hV, hS⟩ hl hd hcl
        have hk := nY 7 hcl hl
        have hX := hS.1 hk
        have hB := hX
        have a1 := eO hA 1 rfl
        refine show_value (v := .pointer (some ⟨w.heap.size, 0, none⟩)) (X' := X) ?_ ⟨hV.upd (fun _ h => Option.some.inj h), Pre1.keep hk (by decide) (hX)⟩
        generalize A.eval = ρ at *
        clear hA hl hd hcl hV hS
        go_simp
      · intro l vs X A hA ⟨hV, hS⟩ hl hd hcl
        have hk := nY 7 hcl hl
        have hX := hS.1 hk
        have hB := hX
        have a23 := eN hA 23 2 hd hV rfl
        refine show_value (v := .pointer (some ⟨w.heap.size, 4, none⟩)) (X' := X) ?_ ⟨hV.upd (fun _ h => Option.some.inj h), Pre1.keep hk (by decide) (hX)⟩
        generalize A.eval = ρ at *
        clear hA hl hd hcl hV hS
        go_simp
      · intro l vs X A hA ⟨hV, hS⟩ hl hd hcl
        have hk := nY 7 hcl hl
        have hX := hS.1 hk
        have hB := hX
        have a24 := eN hA 24 3 hd hV rfl
        have hg := hJ.grow hB
        have cc : X.cell? ⟨w.heap.size, 4, none⟩ = some (.int .u32 (i.imm : Int)) := hg.st.cell 4
        refine show_value (v := .int .u32 (i.imm : Int)) (X' := X) ?_ ⟨hV.upd (fun _ h => Option.some.inj h), Pre1.keep hk (by decide) (hX)⟩
        clear hg
        generalize A.eval = ρ at *
        clear hA hl hd hcl hV hS
        go_simp
      · intro l vs X A hA ⟨hV, hS⟩ hl hd hcl
        have hk := nY 7 hcl hl
        have hX := hS.1 hk
        have hB := hX
        have a22 := eN hA 22 1 hd hV rfl
        have a25 := eN hA 25 4 hd hV rfl
        have aF0 : A.eval (.func 89) = .func (.func 89) #[] #[] := rfl
        refine show_call (f := 89) (args := #[(k.r d).v, .int .u32 (i.imm : Int)]) ?_ (wit_any (k.r d) i.imm X hok hn1 hn2) ?_
        · generalize A.eval = ρ at *
          clear hA hl hd hcl hV hS
          go_simp
        · rintro e X' ⟨rfl, hB1⟩
          exact .inl ⟨_, rfl, hV.upd (fun _ h => Option.some.inj h), Pre1.keep hk (by decide) (hX.trans (hB1.mono hX.size))⟩
      · intro l vs X A hA ⟨hV, hS⟩ hl hd hcl
        have hk := nY 7 hcl hl
        have hX := hS.1 hk
        have hB := hX
        have a21 := eN hA 21 0 hd hV rfl
        have a26 := eN hA 26 5 hd hV rfl
        have aF0 : A.eval (.func 76) = .func (.func 76) #[] #[] := rfl
        refine show_call (f := 76) (args := #[.agg (stA i c k), (witR (k.r d) i.imm).v]) ?_ (with_any i c k d (witR (k.r d) i.imm) X hdst hdn) ?_
        · generalize A.eval = ρ at *
          clear hA hl hd hcl hV hS
          go_simp
        · rintro e X' ⟨rfl, hB1⟩
          exact .inl ⟨_, rfl, hV.upd (fun _ h => Option.some.inj h), Pre1.keep hk (by decide) (hX.trans (hB1.mono hX.size))⟩
      · intro l vs X A hA ⟨hV, hS⟩ hl hd hcl
        have hX := hS.1 hl
        have hB := hX
        have a2 := eO hA 2 rfl
        have a27 := eN hA 27 6 hd hV rfl
        have hg := hJ.grow hX
        refine show_skip (X' := X.setRow (w.heap.size + 1) (k.set d (witR (k.r d) i.imm)).a) (run_st_row 43 _ _ rfl (w.heap.size + 1) _ _ _ a2 a27 hg.n (by kernel_rfl) (by kernel_rfl) (Kn.a_one _)) ⟨hV.upd (fun _ h => by cases h), Pre1.last (hg.setN _)⟩
    case hend =>
      intro l vs X hl ⟨hV, hS⟩
      have hX := hS.2 (hl 7 (by decide))
      have v0 := hV 0 _ (hl 0 (by decide)) rfl
      have v1 := hV 1 _ (hl 1 (by decide)) rfl
      have v2 := hV 2 _ (hl 2 (by decide)) rfl
      have v3 := hV 3 _ (hl 3 (by decide)) rfl
      have v4 := hV 4 _ (hl 4 (by decide)) rfl
      have v5 := hV 5 _ (hl 5 (by decide)) rfl
      have v6 := hV 6 _ (hl 6 (by decide)) rfl
      clear hV hS hl
      simp only [canonL, if_true, v0, v1, v2, v3, v4, v5, v6]
      clear v0 v1 v2 v3 v4 v5 v6
      go_simp
      clear hJ hz4
      have hJ := hX
      clear hX
      obtain ⟨W5, hren⟩ : ∃ Z, Z = X := ⟨_, rfl⟩
      subst hren
      have hz5 := hJ.size
      go_upto_region 6 with fail
      refine wp_region_inv (Φ := fun l vs X => Vals (fun q => match q with | 0 => some (.agg (k.set d (witR (k.r d) i.imm)).a) | 1 => some (.agg (k.set d (fromR i.imm i.imm)).a) | _ => none) l vs ∧ Pre2 2 3 (Below W5.heap.size W5) (JW w i c k (k.set d (witR (k.r d) i.imm)) (k.set d (fromR i.imm i.imm)) b6 b7 (k.r d) (fromR i.imm i.imm)) (JW w i c k (k.set d (witR (k.r d) i.imm)) (k.set d (fromR i.imm i.imm)) b6 b7 (k.r d) (fromR i.imm i.imm)) l X) (PQ := fun _ _ => False)
        (by kernel_rfl) (by kernel_rfl) (by kernel_rfl) (by kernel_rfl) ⟨Vals.none _ _, Pre2.start ((Below.refl _ _).drew)⟩ ?hop ?hend (fun _ _ _ _ h => h.elim)
      case hop =>
        refine ⟨?_, ?_, ?_, ?_, trivial⟩
        · intro l vs X A hA ⟨hV, hS⟩ hl hd hcl
          have hj := nY 2 hcl hl
          have hk := nY 3 hcl hl
          have hX := hS.1 hj
          have hB := hX
          have a2 := eO hA 2 rfl
          refine show_value (v := .agg (k.set d (witR (k.r d) i.imm)).a) (X' := X) (run_ld 43 _ rfl _ a2 (ld_row (l := (k.set d (witR (k.r d) i.imm)).cells) (has_whole (hJ.grow hB).n) (by kernel_rfl))) ⟨hV.upd (fun _ h => Option.some.inj h), Pre2.keep hj hk (by decide) (by decide) (hX)⟩
        · intro l vs X A hA ⟨hV, hS⟩ hl hd hcl
          have hk := nY 3 hcl hl
          have a3 := eO hA 3 rfl
          cases hj : l 2 with
          | true =>
            have hX := hS.2.1 hj hk
            exact show_value (v := .agg (k.set d (fromR i.imm i.imm)).a) (X' := X) (run_ld 43 _ rfl _ a3 (ld_row (l := (k.set d (fromR i.imm i.imm)).cells) (has_whole hX.j) (by kernel_rfl))) ⟨hV.upd (fun _ h => Option.some.inj h), Pre2.keepMid hj hk (by decide) (by decide) hX⟩
          | false =>
            have hX := hS.1 hj
            have hB := hX
            exact show_value (v := .agg (k.set d (fromR i.imm i.imm)).a) (X' := X) (run_ld 43 _ rfl _ a3 (ld_row (l := (k.set d (fromR i.imm i.imm)).cells) (has_whole (hJ.grow hB).j) (by kernel_rfl))) ⟨hV.upd (fun _ h => Option.some.inj h), Pre2.keep hj hk (by decide) (by decide) hX⟩
        · intro l vs X A hA ⟨hV, hS⟩ hl hd hcl
          have hk := nY 3 hcl hl
          have hX := hS.1 hl
          have a2 := eO hA 2 rfl
          have a28 := eN hA 28 0 hd hV rfl
          have hg := hJ.grow hX
          refine show_skip (X' := X.setRow (w.heap.size + 1) (k.set d (witR (k.r d) i.imm)).a) (run_st_row 43 _ _ rfl (w.heap.size + 1) _ _ _ a2 a28 hg.n (by kernel_rfl) (by kernel_rfl) (Kn.a_one _)) ⟨hV.upd (fun _ h => by cases h), Pre2.mid hk (by decide) (hg.setN _)⟩
        · intro l vs X A hA ⟨hV, hS⟩ hl hd hcl
          have hX := hS.2.1 (hd 2 (by kernel_rfl)) hl
          have a3 := eO hA 3 rfl
          have a29 := eN hA 29 1 hd hV rfl
          refine show_skip (X' := X.setRow (w.heap.size + 2) (k.set d (fromR i.imm i.imm)).a) (run_st_row 43 _ _ rfl (w.heap.size + 2) _ _ _ a3 a29 hX.j (by kernel_rfl) (by kernel_rfl) (Kn.a_one _)) ⟨hV.upd (fun _ h => by cases h), Pre2.last (hd 2 (by kernel_rfl)) (hX.setJ _)⟩
      case hend =>
        intro l vs X hl ⟨hV, hS⟩
        have hX := hS.2.2 (hl 3 (by decide))
        have v0 := hV 0 _ (hl 0 (by decide)) rfl
        have v1 := hV 1 _ (hl 1 (by decide)) rfl
        clear hV hS hl
        simp only [canonL, if_true, v0, v1]
        clear v0 v1
        go_simp
        go_wp2_with fail
        refine bodyPost_ret (results_rows2 rfl _ _ (w.heap.size + 1) (w.heap.size + 2) 43 _ _ _ rfl rfl hX.n hX.j Tryd.underlying43 rfl (by kernel_rfl) (by kernel_rfl)) rfl ?_
        exact ⟨rfl, hX.below⟩
end Go.Proofs.YtodkehpldlmgaaaDoor
/- jeqi, where one way alone is gone. -/
namespace Go.Proofs.YtodkehpldlmgaaaDoor
open Go.RowKit
set_option maxRecDepth 10000 in
set_option maxHeartbeats 2000000 in
theorem jeq_10 (i : Ins) (c : Int) (k : Kn) (d : Nat) (w : World) (hdst : i.dst = (d : Int)) (hdn : d < 10) (hk0 : k.r d ≠ noR) (hok : (k.r d).Ok) (hh : hasR (k.r d) i.imm = true) (hq : decide (k.r d = fromR i.imm i.imm) = true) :
    Calls Tryd.prog 61 #[.agg (stA i c k)] w fun e w' => e = .returned (two (noK) (k.set d (fromR i.imm i.imm))) ∧ Below w.heap.size w w' := by
  obtain ⟨W0, hW0⟩ : ∃ W0, W0 = ((w.alloc (.cells (stA i c k) 82)).alloc (.cells noK.a 43)).alloc (.cells noK.a 43) := ⟨_, rfl⟩
  obtain ⟨hst, h3, h4, hB0, hz0⟩ := ways_world i c k w W0 hW0
  have HZ : Hid (W0.heap.size = w.heap.size + 3) := hz0
  clear hz0
  go_enter Tryd.func61, Tryd.ntmps61
  go_upto_region 1 with fail
  refine named2 (p := fun X => Code.wp _ _ _ _ X) ?_
  intro W9 hW9
  have hW : W0 = W9 := hW0.trans hW9.symm
  subst hW
  clear hW9 hW0
  refine wp_region_inv (Φ := fun l vs X => Vals (fun q => match q with | 0 => some (.agg (stA i c k)) | 1 => some ((k.r d).v) | 2 => some (.agg (stA i c k)) | 3 => some ((fromR i.imm i.imm).v) | _ => none) l vs ∧ Ph2 6 7 (Two W0.heap.size 40 noR.a W0 4 5) (fun vs X => Both W0.heap.size 40 (k.r d).a noR.a W0 (vs 4) (vs 5) X) (fun vs X => Both W0.heap.size 40 (k.r d).a (fromR i.imm i.imm).a W0 (vs 4) (vs 5) X) l vs X) (PQ := fun _ _ => False)
    (by kernel_rfl) (by kernel_rfl) (by kernel_rfl) (by kernel_rfl) ⟨Vals.none _ _, Ph2.start (Two.start ((Below.refl _ _).drew) (Nat.le_refl _))⟩ ?hop ?hend (fun _ _ _ _ h => h.elim)
  case hop =>
    refine ⟨?_, ?_, ?_, ?_, ?_, ?_, ?_, ?_, trivial⟩
    · intro l vs X A hA ⟨hV, hS⟩ hl hd hcl
      have hj := nY 6 hcl hl
      have hk := nY 7 hcl hl
      have hX := hS.1 hj
      have hB := hX.below
      have a1 := eO hA 1 rfl
      refine show_value (v := .agg (stA i c k)) (X' := X) (run_ld 82 _ rfl _ a1 (ld_row (l := stCells i c k) (has_whole (hst.below hB hst.lt)) (by kernel_rfl))) ⟨hV.upd (fun _ h => Option.some.inj h), Ph2.keep hj hk (by decide) (by decide) (hX.grow (Below.refl _ _) (by decide) (by decide) _)⟩
    · intro l vs X A hA ⟨hV, hS⟩ hl hd hcl
      have hj := nY 6 hcl hl
      have hk := nY 7 hcl hl
      have hX := hS.1 hj
      have hB := hX.below
      have a6 := eN hA 6 0 hd hV rfl
      have aF0 : A.eval (.func 80) = .func (.func 80) #[] #[] := rfl
      refine show_call (f := 80) (args := #[.agg (stA i c k)]) ?_ (dst_ok i c k d X hdst hdn hk0) ?_
      · generalize A.eval = ρ at *
        clear hA hl hd hcl hV hS
        go_simp
      · rintro e X' ⟨rfl, hB1⟩
        exact .inl ⟨_, rfl, hV.upd (fun _ h => Option.some.inj h), Ph2.keep hj hk (by decide) (by decide) (hX.grow hB1 (by decide) (by decide) _)⟩
    · intro l vs X A hA ⟨hV, hS⟩ hl hd hcl
      have hj := nY 6 hcl hl
      have hk := nY 7 hcl hl
      have hX := hS.1 hj
      have hB := hX.below
      have a1 := eO hA 1 rfl
      refine show_value (v := .agg (stA i c k)) (X' := X) (run_ld 82 _ rfl _ a1 (ld_row (l := stCells i c k) (has_whole (hst.below hB hst.lt)) (by kernel_rfl))) ⟨hV.upd (fun _ h => Option.some.inj h), Ph2.keep hj hk (by decide) (by decide) (hX.grow (Below.refl _ _) (by decide) (by decide) _)⟩
    · intro l vs X A hA ⟨hV, hS⟩ hl hd hcl
      have hj := nY 6 hcl hl
      have hk := nY 7 hcl hl
      have hX := hS.1 hj
      have hB := hX.below
      have a8 := eN hA 8 2 hd hV rfl
      have aF0 : A.eval (.func 45) = .func (.func 45) #[] #[] := rfl
      refine show_call (f := 45) (args := #[.agg (stA i c k)]) ?_ (imm_any i c k X) ?_
      · generalize A.eval = ρ at *
        clear hA hl hd hcl hV hS
        go_simp
      · rintro e X' ⟨rfl, hB1⟩
        exact .inl ⟨_, rfl, hV.upd (fun _ h => Option.some.inj h), Ph2.keep hj hk (by decide) (by decide) (hX.grow hB1 (by decide) (by decide) _)⟩
    · intro l vs X A hA ⟨hV, hS⟩ hl hd hcl
      have hj := nY 6 hcl hl
      have hk := nY 7 hcl hl
      have hX := hS.1 hj
      have hB := hX.below
      refine show_value (v := .pointer (some ⟨X.heap.size, 0, none⟩)) (X' := X.alloc (.cells noR.a 40)) ?_ ⟨hV.upd (fun _ h => by cases h), Ph2.keep hj hk (by decide) (by decide) (hX.mkFst (by decide))⟩
      generalize A.eval = ρ at *
      clear hA hl hd hcl hV hS
      rfl
    · intro l vs X A hA ⟨hV, hS⟩ hl hd hcl
      have hj := nY 6 hcl hl
      have hk := nY 7 hcl hl
      have hX := hS.1 hj
      have hB := hX.below
      refine show_value (v := .pointer (some ⟨X.heap.size, 0, none⟩)) (X' := X.alloc (.cells noR.a 40)) ?_ ⟨hV.upd (fun _ h => by cases h), Ph2.keep hj hk (by decide) (by decide) (hX.mkSnd (by decide))⟩
      generalize A.eval = ρ at *
      clear hA hl hd hcl hV hS
      rfl
    · intro l vs X A hA ⟨hV, hS⟩ hl hd hcl
      have hk := nY 7 hcl hl
      have hX := hS.1 hl
      have a4 := eval_new hA 4 4 (by kernel_rfl) (by kernel_rfl) (by kernel_rfl) (hd 4 (by kernel_rfl)) (rfl : vs 4 = vs 4)
      have a7 := eN hA 7 1 hd hV rfl
      obtain ⟨b, hb, hH, hT⟩ := (hX.both (hd 4 (by kernel_rfl)) (hd 5 (by kernel_rfl))).setFst (x' := (k.r d).a)
      rw [hb] at a4
      refine show_skip (run_st_row 40 _ _ rfl b _ _ _ a4 a7 hH (by kernel_rfl) (by kernel_rfl) (Rg.a_one _)) ⟨hV.upd (fun _ h => by cases h), Ph2.mid hk (by decide) ?_⟩
      exact hT
    · intro l vs X A hA ⟨hV, hS⟩ hl hd hcl
      have hX := hS.2.1 (hd 6 (by kernel_rfl)) hl
      have a5 := eval_new hA 5 5 (by kernel_rfl) (by kernel_rfl) (by kernel_rfl) (hd 5 (by kernel_rfl)) (rfl : vs 5 = vs 5)
      have a9 := eN hA 9 3 hd hV rfl
      obtain ⟨b, hb, hH, hT⟩ := hX.setSnd (y' := (fromR i.imm i.imm).a)
      rw [hb] at a5
      refine show_skip (run_st_row 40 _ _ rfl b _ _ _ a5 a9 hH (by kernel_rfl) (by kernel_rfl) (Rg.a_one _)) ⟨hV.upd (fun _ h => by cases h), Ph2.last (hd 6 (by kernel_rfl)) ?_⟩
      exact hT
  case hend =>
    intro l vs X hl ⟨hV, hS⟩
    have hX := hS.2.2 (hl 7 (by decide))
    have v0 := hV 0 _ (hl 0 (by decide)) rfl
    have v1 := hV 1 _ (hl 1 (by decide)) rfl
    have v2 := hV 2 _ (hl 2 (by decide)) rfl
    have v3 := hV 3 _ (hl 3 (by decide)) rfl
    clear hV hS hl
    obtain ⟨b6, b7, u6, u7, g6, g7, hne, hb6, hb7, hB9⟩ := hX
    simp only [canonL, if_true, v0, v1, v2, v3, u6, u7]
    clear v0 v1 v2 v3 u6 u7
    go_simp
    have hJ : JW w i c k (noK) (noK) b6 b7 (k.r d) (fromR i.imm i.imm) X := ⟨hst.below hB9 hst.lt, h3.below hB9 h3.lt, h4.below hB9 h4.lt, hb6, hb7, hB0.trans (hB9.mono hB0.size), by have := HZ.out; omega, by have := HZ.out; omega⟩
    obtain ⟨W1, hren⟩ : ∃ Z, Z = X := ⟨_, rfl⟩
    subst hren
    clear hst h3 h4 hb6 hb7 hB9 g6 g7 hB0 HZ
    have hz1 := hJ.size
    go_upto_region 2 with fail
    have hc : ∀ X, Calls Tryd.prog 88 #[(k.r d).v, .int .u32 (i.imm : Int)] X fun e w' => e = .returned (.bool true) ∧ Below X.heap.size X w' := fun X => by rw [← hh]; exact has_any _ _ X hok
    have c4 : W1.cell? ⟨w.heap.size, 4, none⟩ = some (.int .u32 (i.imm : Int)) := hJ.st.cell 4
    have hd6 := hJ.d
    go_upto_region 3 with (first | refine wpList_load_row rfl 40 _ rfl b6 rfl 40 ((k.r d).a) (0, 0) _ hd6 Tryd.underlying40 rfl (by kernel_rfl) ?_ | (go_at_call 88; refine (hc _).mono ?_; rintro e W2 ⟨rfl, hB2⟩; clear c4 hd6 hc))
    replace hJ := hJ.grow hB2
    clear hB2 hz1
    have hz2 := hJ.size
    have hw : ∀ X, _ := fun X => with_any i c k d (fromR i.imm i.imm) X hdst hdn
    have hs6 := hJ.st
    have ho7 := hJ.o
    go_upto_region 4 with (first | refine wpList_load_row rfl 82 _ rfl w.heap.size rfl 82 (stA i c k) (0, 0) _ hs6 Tryd.underlying82 rfl (by kernel_rfl) ?_ | refine wpList_load_row rfl 40 _ rfl b7 rfl 40 ((fromR i.imm i.imm).a) (0, 0) _ ho7 Tryd.underlying40 rfl (by kernel_rfl) ?_ | (go_at_call 76; refine (hw _).mono ?_; rintro e W3 ⟨rfl, hB3⟩; clear hs6 ho7 hw; replace hJ := hJ.grow hB3; have hjj := hJ.j) | refine wpList_store_row rfl 43 _ _ rfl (w.heap.size + 2) (k.set d (fromR i.imm i.imm)).a rfl rfl 43 noK.a hjj (by kernel_rfl) (by kernel_rfl) (Kn.a_one _) ?_)
    replace hJ := hJ.setJ (k.set d (fromR i.imm i.imm))
    clear hB3 hjj hz2
    generalize W3.setRow (w.heap.size + 2) (k.set d (fromR i.imm i.imm)).a = W4 at *
    have hz4 := hJ.size
    have hd6 := hJ.d
    have ho7 := hJ.o
    have HQ : Hid ((!decide (k.r d = fromR i.imm i.imm)) = false) := by show _ = _; rw [hq]; rfl
    go_upto_region 6 with (first | refine wpList_load_row rfl 40 _ rfl b6 rfl 40 ((k.r d).a) (0, 0) _ hd6 Tryd.underlying40 rfl (by kernel_rfl) ?_ | refine wpList_load_row rfl 40 _ rfl b7 rfl 40 ((fromR i.imm i.imm).a) (0, 0) _ ho7 Tryd.underlying40 rfl (by kernel_rfl) ?_ | (refine wpList_val rfl (run_neq _ _ rfl (k.r d) (fromR i.imm i.imm) rfl rfl) ?_; rw [HQ.out]))
    clear hd6 ho7
    refine wp_region_inv (Φ := fun l vs X => Vals (fun q => match q with | 0 => some (.agg (noK).a) | 1 => some (.agg (k.set d (fromR i.imm i.imm)).a) | _ => none) l vs ∧ Pre2 2 3 (Below W4.heap.size W4) (JW w i c k (noK) (k.set d (fromR i.imm i.imm)) b6 b7 (k.r d) (fromR i.imm i.imm)) (JW w i c k (noK) (k.set d (fromR i.imm i.imm)) b6 b7 (k.r d) (fromR i.imm i.imm)) l X) (PQ := fun _ _ => False)
      (by kernel_rfl) (by kernel_rfl) (by kernel_rfl) (by kernel_rfl) ⟨Vals.none _ _, Pre2.start ((Below.refl _ _).drew)⟩ ?hop ?hend (fun _ _ _ _ h => h.elim)
    case hop =>
      refine ⟨?_, ?_, ?_, ?_, trivial⟩
      · intro l vs X A hA ⟨hV, hS⟩ hl hd hcl
        have hj := nY 2 hcl hl
        have hk := nY 3 hcl hl
        have hX := hS.1 hj
        have hB := hX
        have a2 := eO hA 2 rfl
        refine show_value (v := .agg (noK).a) (X' := X) (run_ld 43 _ rfl _ a2 (ld_row (l := (noK).cells) (has_whole (hJ.grow hB).n) (by kernel_rfl))) ⟨hV.upd (fun _ h => Option.some.inj h), Pre2.keep hj hk (by decide) (by decide) (hX)⟩
      · intro l vs X A hA ⟨hV, hS⟩ hl hd hcl
        have hk := nY 3 hcl hl
        have a3 := eO hA 3 rfl
        cases hj : l 2 with
        | true =>
          have hX := hS.2.1 hj hk
          exact show_value (v := .agg (k.set d (fromR i.imm i.imm)).a) (X' := X) (run_ld 43 _ rfl _ a3 (ld_row (l := (k.set d (fromR i.imm i.imm)).cells) (has_whole hX.j) (by kernel_rfl))) ⟨hV.upd (fun _ h => Option.some.inj h), Pre2.keepMid hj hk (by decide) (by decide) hX⟩
        | false =>
          have hX := hS.1 hj
          have hB := hX
          exact show_value (v := .agg (k.set d (fromR i.imm i.imm)).a) (X' := X) (run_ld 43 _ rfl _ a3 (ld_row (l := (k.set d (fromR i.imm i.imm)).cells) (has_whole (hJ.grow hB).j) (by kernel_rfl))) ⟨hV.upd (fun _ h => Option.some.inj h), Pre2.keep hj hk (by decide) (by decide) hX⟩
      · intro l vs X A hA ⟨hV, hS⟩ hl hd hcl
        have hk := nY 3 hcl hl
        have hX := hS.1 hl
        have a2 := eO hA 2 rfl
        have a28 := eN hA 28 0 hd hV rfl
        have hg := hJ.grow hX
        refine show_skip (X' := X.setRow (w.heap.size + 1) (noK).a) (run_st_row 43 _ _ rfl (w.heap.size + 1) _ _ _ a2 a28 hg.n (by kernel_rfl) (by kernel_rfl) (Kn.a_one _)) ⟨hV.upd (fun _ h => by cases h), Pre2.mid hk (by decide) (hg.setN _)⟩
      · intro l vs X A hA ⟨hV, hS⟩ hl hd hcl
        have hX := hS.2.1 (hd 2 (by kernel_rfl)) hl
        have a3 := eO hA 3 rfl
        have a29 := eN hA 29 1 hd hV rfl
        refine show_skip (X' := X.setRow (w.heap.size + 2) (k.set d (fromR i.imm i.imm)).a) (run_st_row 43 _ _ rfl (w.heap.size + 2) _ _ _ a3 a29 hX.j (by kernel_rfl) (by kernel_rfl) (Kn.a_one _)) ⟨hV.upd (fun _ h => by cases h), Pre2.last (hd 2 (by kernel_rfl)) (hX.setJ _)⟩
    case hend =>
      intro l vs X hl ⟨hV, hS⟩
      have hX := hS.2.2 (hl 3 (by decide))
      have v0 := hV 0 _ (hl 0 (by decide)) rfl
      have v1 := hV 1 _ (hl 1 (by decide)) rfl
      clear hV hS hl
      simp only [canonL, if_true, v0, v1]
      clear v0 v1
      go_simp
      go_wp2_with fail
      refine bodyPost_ret (results_rows2 rfl _ _ (w.heap.size + 1) (w.heap.size + 2) 43 _ _ _ rfl rfl hX.n hX.j Tryd.underlying43 rfl (by kernel_rfl) (by kernel_rfl)) rfl ?_
      exact ⟨rfl, hX.below⟩
set_option maxRecDepth 10000 in
set_option maxHeartbeats 2000000 in
theorem jeq_01 (i : Ins) (c : Int) (k : Kn) (d : Nat) (w : World) (hdst : i.dst = (d : Int)) (hdn : d < 10) (hk0 : k.r d ≠ noR) (hok : (k.r d).Ok) (hh : hasR (k.r d) i.imm = false) (hq : decide (k.r d = fromR i.imm i.imm) = false) (hn1 : ¬ (i.imm = (k.r d).least ∧ (k.r d).least = 4294967295)) (hn2 : ¬ (i.imm ≠ (k.r d).least ∧ i.imm = (k.r d).great ∧ (k.r d).great = 0)) :
    Calls Tryd.prog 61 #[.agg (stA i c k)] w fun e w' => e = .returned (two (k.set d (witR (k.r d) i.imm)) (noK)) ∧ Below w.heap.size w w' := by
  obtain ⟨W0, hW0⟩ : ∃ W0, W0 = ((w.alloc (.cells (stA i c k) 82)).alloc (.cells noK.a 43)).alloc (.cells noK.a 43) := ⟨_, rfl⟩
  obtain ⟨hst, h3, h4, hB0, hz0⟩ := ways_world i c k w W0 hW0
  have HZ : Hid (W0.heap.size = w.heap.size + 3) := hz0
  clear hz0
  go_enter Tryd.func61, Tryd.ntmps61
  go_upto_region 1 with fail
  refine named2 (p := fun X => Code.wp _ _ _ _ X) ?_
  intro W9 hW9
  have hW : W0 = W9 := hW0.trans hW9.symm
  subst hW
  clear hW9 hW0
  refine wp_region_inv (Φ := fun l vs X => Vals (fun q => match q with | 0 => some (.agg (stA i c k)) | 1 => some ((k.r d).v) | 2 => some (.agg (stA i c k)) | 3 => some ((fromR i.imm i.imm).v) | _ => none) l vs ∧ Ph2 6 7 (Two W0.heap.size 40 noR.a W0 4 5) (fun vs X => Both W0.heap.size 40 (k.r d).a noR.a W0 (vs 4) (vs 5) X) (fun vs X => Both W0.heap.size 40 (k.r d).a (fromR i.imm i.imm).a W0 (vs 4) (vs 5) X) l vs X) (PQ := fun _ _ => False)
    (by kernel_rfl) (by kernel_rfl) (by kernel_rfl) (by kernel_rfl) ⟨Vals.none _ _, Ph2.start (Two.start ((Below.refl _ _).drew) (Nat.le_refl _))⟩ ?hop ?hend (fun _ _ _ _ h => h.elim)
  case hop =>
    refine ⟨?_, ?_, ?_, ?_, ?_, ?_, ?_, ?_, trivial⟩
    · intro l vs X A hA ⟨hV, hS⟩ hl hd hcl
      have hj := nY 6 hcl hl
      have hk := nY 7 hcl hl
      have hX := hS.1 hj
      have hB := hX.below
      have a1 := eO hA 1 rfl
      refine show_value (v := .agg (stA i c k)) (X' := X) (run_ld 82 _ rfl _ a1 (ld_row (l := stCells i c k) (has_whole (hst.below hB hst.lt)) (by kernel_rfl))) ⟨hV.upd (fun _ h => Option.some.inj h), Ph2.keep hj hk (by decide) (by decide) (hX.grow (Below.refl _ _) (by decide) (by decide) _)⟩
    · intro l vs X A hA ⟨hV, hS⟩ hl hd hcl
      have hj := nY 6 hcl hl
      have hk := nY 7 hcl hl
      have hX := hS.1 hj
      have hB := hX.below
      have a6 := eN hA 6 0 hd hV rfl
      have aF0 : A.eval (.func 80) = .func (.func 80) #[] #[] := rfl
      refine show_call (f := 80) (args := #[.agg (stA i c k)]) ?_ (dst_ok i c k d X hdst hdn hk0) ?_
      · generalize A.eval = ρ at *
        clear hA hl hd hcl hV hS
        go_simp
      · rintro e X' ⟨rfl, hB1⟩
        exact .inl ⟨_, rfl, hV.upd (fun _ h => Option.some.inj h), Ph2.keep hj hk (by decide) (by decide) (hX.grow hB1 (by decide) (by decide) _)⟩
    · intro l vs X A hA ⟨hV, hS⟩ hl hd hcl
      have hj := nY 6 hcl hl
      have hk := nY 7 hcl hl
      have hX := hS.1 hj
      have hB := hX.below
      have a1 := eO hA 1 rfl
      refine show_value (v := .agg (stA i c k)) (X' := X) (run_ld 82 _ rfl _ a1 (ld_row (l := stCells i c k) (has_whole (hst.below hB hst.lt)) (by kernel_rfl))) ⟨hV.upd (fun _ h => Option.some.inj h), Ph2.keep hj hk (by decide) (by decide) (hX.grow (Below.refl _ _) (by decide) (by decide) _)⟩
    · intro l vs X A hA ⟨hV, hS⟩ hl hd hcl
      have hj := nY 6 hcl hl
      have hk := nY 7 hcl hl
      have hX := hS.1 hj
      have hB := hX.below
      have a8 := eN hA 8 2 hd hV rfl
      have aF0 : A.eval (.func 45) = .func (.func 45) #[] #[] := rfl
      refine show_call (f := 45) (args := #[.agg (stA i c k)]) ?_ (imm_any i c k X) ?_
      · generalize A.eval = ρ at *
        clear hA hl hd hcl hV hS
        go_simp
      · rintro e X' ⟨rfl, hB1⟩
        exact .inl ⟨_, rfl, hV.upd (fun _ h => Option.some.inj h), Ph2.keep hj hk (by decide) (by decide) (hX.grow hB1 (by decide) (by decide) _)⟩
    · intro l vs X A hA ⟨hV, hS⟩ hl hd hcl
      have hj := nY 6 hcl hl
      have hk := nY 7 hcl hl
      have hX := hS.1 hj
      have hB := hX.below
      refine show_value (v := .pointer (some ⟨X.heap.size, 0, none⟩)) (X' := X.alloc (.cells noR.a 40)) ?_ ⟨hV.upd (fun _ h => by cases h), Ph2.keep hj hk (by decide) (by decide) (hX.mkFst (by decide))⟩
      generalize A.eval = ρ at *
      clear hA hl hd hcl hV hS
      rfl
    · intro l vs X A hA ⟨hV, hS⟩ hl hd hcl
      have hj := nY 6 hcl hl
      have hk := nY 7 hcl hl
      have hX := hS.1 hj
      have hB := hX.below
      refine show_value (v := .pointer (some ⟨X.heap.size, 0, none⟩)) (X' := X.alloc (.cells noR.a 40)) ?_ ⟨hV.upd (fun _ h => by cases h), Ph2.keep hj hk (by decide) (by decide) (hX.mkSnd (by decide))⟩
      generalize A.eval = ρ at *
      clear hA hl hd hcl hV hS
      rfl
    · intro l vs X A hA ⟨hV, hS⟩ hl hd hcl
      have hk := nY 7 hcl hl
      have hX := hS.1 hl
      have a4 := eval_new hA 4 4 (by kernel_rfl) (by kernel_rfl) (by kernel_rfl) (hd 4 (by kernel_rfl)) (rfl : vs 4 = vs 4)
      have a7 := eN hA 7 1 hd hV rfl
      obtain ⟨b, hb, hH, hT⟩ := (hX.both (hd 4 (by kernel_rfl)) (hd 5 (by kernel_rfl))).setFst (x' := (k.r d).a)
      rw [hb] at a4
      refine show_skip (run_st_row 40 _ _ rfl b _ _ _ a4 a7 hH (by kernel_rfl) (by kernel_rfl) (Rg.a_one _)) ⟨hV.upd (fun _ h => by cases h), Ph2.mid hk (by decide) ?_⟩
      exact hT
    · intro l vs X A hA ⟨hV, hS⟩ hl hd hcl
      have hX := hS.2.1 (hd 6 (by kernel_rfl)) hl
      have a5 := eval_new hA 5 5 (by kernel_rfl) (by kernel_rfl) (by kernel_rfl) (hd 5 (by kernel_rfl)) (rfl : vs 5 = vs 5)
      have a9 := eN hA 9 3 hd hV rfl
      obtain ⟨b, hb, hH, hT⟩ := hX.setSnd (y' := (fromR i.imm i.imm).a)
      rw [hb] at a5
      refine show_skip (run_st_row 40 _ _ rfl b _ _ _ a5 a9 hH (by kernel_rfl) (by kernel_rfl) (Rg.a_one _)) ⟨hV.upd (fun _ h => by cases h), Ph2.last (hd 6 (by kernel_rfl)) ?_⟩
      exact hT
  case hend =>
    intro l vs X hl ⟨hV, hS⟩
    have hX := hS.2.2 (hl 7 (by decide))
    have v0 := hV 0 _ (hl 0 (by decide)) rfl
    have v1 := hV 1 _ (hl 1 (by decide)) rfl
    have v2 := hV 2 _ (hl 2 (by decide)) rfl
    have v3 := hV 3 _ (hl 3 (by decide)) rfl
    clear hV hS hl
    obtain ⟨b6, b7, u6, u7, g6, g7, hne, hb6, hb7, hB9⟩ := hX
    simp only [canonL, if_true, v0, v1, v2, v3, u6, u7]
    clear v0 v1 v2 v3 u6 u7
    go_simp
    have hJ : JW w i c k (noK) (noK) b6 b7 (k.r d) (fromR i.imm i.imm) X := ⟨hst.below hB9 hst.lt, h3.below hB9 h3.lt, h4.below hB9 h4.lt, hb6, hb7, hB0.trans (hB9.mono hB0.size), by have := HZ.out; omega, by have := HZ.out; omega⟩
    obtain ⟨W1, hren⟩ : ∃ Z, Z = X := ⟨_, rfl⟩
    subst hren
    clear hst h3 h4 hb6 hb7 hB9 g6 g7 hB0 HZ
    have hz1 := hJ.size
    go_upto_region 2 with fail
    have hc : ∀ X, Calls Tryd.prog 88 #[(k.r d).v, .int .u32 (i.imm : Int)] X fun e w' => e = .returned (.bool false) ∧ Below X.heap.size X w' := fun X => by rw [← hh]; exact has_any _ _ X hok
    have c4 : W1.cell? ⟨w.heap.size, 4, none⟩ = some (.int .u32 (i.imm : Int)) := hJ.st.cell 4
    have hd6 := hJ.d
    go_upto_region 4 with (first | refine wpList_load_row rfl 40 _ rfl b6 rfl 40 ((k.r d).a) (0, 0) _ hd6 Tryd.underlying40 rfl (by kernel_rfl) ?_ | (go_at_call 88; refine (hc _).mono ?_; rintro e W2 ⟨rfl, hB2⟩; clear c4 hd6 hc))
    replace hJ := hJ.grow hB2
    clear hB2 hz1
    have hz2 := hJ.size
    obtain ⟨W4, hren⟩ : ∃ Z, Z = W2 := ⟨_, rfl⟩
    subst hren
    clear hz2
    have hz4 := hJ.size
    have hd6 := hJ.d
    have ho7 := hJ.o
    have HQ : Hid ((!decide (k.r d = fromR i.imm i.imm)) = true) := by show _ = _; rw [hq]; rfl
    go_upto_region 5 with (first | refine wpList_load_row rfl 40 _ rfl b6 rfl 40 ((k.r d).a) (0, 0) _ hd6 Tryd.underlying40 rfl (by kernel_rfl) ?_ | refine wpList_load_row rfl 40 _ rfl b7 rfl 40 ((fromR i.imm i.imm).a) (0, 0) _ ho7 Tryd.underlying40 rfl (by kernel_rfl) ?_ | (refine wpList_val rfl (run_neq _ _ rfl (k.r d) (fromR i.imm i.imm) rfl rfl) ?_; rw [HQ.out]))
    clear hd6 ho7
    refine wp_region_inv (Φ := fun l vs X => Vals (fun q => match q with | 0 => some (.agg (stA i c k)) | 1 => some ((k.r d).v) | 2 => some (.pointer (some ⟨w.heap.size, 0, none⟩)) | 3 => some (.pointer (some ⟨w.heap.size, 4, none⟩)) | 4 => some (.int .u32 (i.imm : Int)) | 5 => some ((witR (k.r d) i.imm).v) | 6 => some (.agg (k.set d (witR (k.r d) i.imm)).a) | _ => none) l vs ∧ Pre1 7 (Below W4.heap.size W4) (JW w i c k (k.set d (witR (k.r d) i.imm)) (noK) b6 b7 (k.r d) (fromR i.imm i.imm)) l X) (PQ := fun _ _ => False)
      (by kernel_rfl) (by kernel_rfl) (by kernel_rfl) (by kernel_rfl) ⟨Vals.none _ _, Pre1.start ((Below.refl _ _).drew)⟩ ?hop ?hend (fun _ _ _ _ h => h.elim)
    case hop =>
      refine ⟨?_, ?_, ?_, ?_, ?_, ?_, ?_, ?_, trivial⟩
      · intro l vs X A hA ⟨hV, hS⟩ hl hd hcl
        have hk := nY 7 hcl hl
        have hX := hS.1 hk
        have hB := hX
        have a1 := eO hA 1 rfl
        refine show_value (v := .agg (stA i c k)) (X' := X) (run_ld 82 _ rfl _ a1 (ld_row (l := stCells i c k) (has_whole (hJ.grow hB).st) (by kernel_rfl))) ⟨hV.upd (fun _ h => Option.some.inj h), Pre1.keep hk (by decide) (hX)⟩
      · intro l vs X A hA ⟨hV, hS⟩ hl hd hcl
        have hk := nY 7 hcl hl
        have hX := hS.1 hk
        have hB := hX
        have a4 := eO hA 4 rfl
        refine show_value (v := (k.r d).v) (X' := X) (run_ld 40 _ rfl _ a4 (ld_row (l := (k.r d).cells) (has_whole (hJ.grow hB).d) (by kernel_rfl))) ⟨hV.upd (fun _ h => Option.some.inj h), Pre1.keep hk (by decide) (hX)⟩
      · intro l vs X A hA ⟨hV, hS⟩ hl hd hcl
        have hk := nY 7 hcl hl
        have hX := hS.1 hk
        have hB := hX
        have a1 := eO hA 1 rfl
        refine show_value (v := .pointer (some ⟨w.heap.size, 0, none⟩)) (X' := X) ?_ ⟨hV.upd (fun _ h => Option.some.inj h), Pre1.keep hk (by decide) (hX)⟩
        generalize A.eval = ρ at *
        clear hA hl hd hcl hV hS
        go_simp
      · intro l vs X A hA ⟨hV, hS⟩ hl hd hcl
        have hk := nY 7 hcl hl
        have hX := hS.1 hk
        have hB := hX
        have a23 := eN hA 23 2 hd hV rfl
        refine show_value (v := .pointer (some ⟨w.heap.size, 4, none⟩)) (X' := X) ?_ ⟨hV.upd (fun _ h => Option.some.inj h), Pre1.keep hk (by decide) (hX)⟩
        generalize A.eval = ρ at *
        clear hA hl hd hcl hV hS
        go_simp
      · intro l vs X A hA ⟨hV, hS⟩ hl hd hcl
        have hk := nY 7 hcl hl
        have hX := hS.1 hk
        have hB := hX
        have a24 := eN hA 24 3 hd hV rfl
        have hg := hJ.grow hB
        have cc : X.cell? ⟨w.heap.size, 4, none⟩ = some (.int .u32 (i.imm : Int)) := hg.st.cell 4
        refine show_value (v := .int .u32 (i.imm : Int)) (X' := X) ?_ ⟨hV.upd (fun _ h => Option.some.inj h), Pre1.keep hk (by decide) (hX)⟩
        clear hg
        generalize A.eval = ρ at *
        clear hA hl hd hcl hV hS
        go_simp
      · intro l vs X A hA ⟨hV, hS⟩ hl hd hcl
        have hk := nY 7 hcl hl
        have hX := hS.1 hk
        have hB := hX
        have a22 := eN hA 22 1 hd hV rfl
        have a25 := eN hA 25 4 hd hV rfl
        have aF0 : A.eval (.func 89) = .func (.func 89) #[] #[] := rfl
        refine show_call (f := 89) (args := #[(k.r d).v, .int .u32 (i.imm : Int)]) ?_ (wit_any (k.r d) i.imm X hok hn1 hn2) ?_
        · generalize A.eval = ρ at *
          clear hA hl hd hcl hV hS
          go_simp
        · rintro e X' ⟨rfl, hB1⟩
          exact .inl ⟨_, rfl, hV.upd (fun _ h => Option.some.inj h), Pre1.keep hk (by decide) (hX.trans (hB1.mono hX.size))⟩
      · intro l vs X A hA ⟨hV, hS⟩ hl hd hcl
        have hk := nY 7 hcl hl
        have hX := hS.1 hk
        have hB := hX
        have a21 := eN hA 21 0 hd hV rfl
        have a26 := eN hA 26 5 hd hV rfl
        have aF0 : A.eval (.func 76) = .func (.func 76) #[] #[] := rfl
        refine show_call (f := 76) (args := #[.agg (stA i c k), (witR (k.r d) i.imm).v]) ?_ (with_any i c k d (witR (k.r d) i.imm) X hdst hdn) ?_
        · generalize A.eval = ρ at *
          clear hA hl hd hcl hV hS
          go_simp
        · rintro e X' ⟨rfl, hB1⟩
          exact .inl ⟨_, rfl, hV.upd (fun _ h => Option.some.inj h), Pre1.keep hk (by decide) (hX.trans (hB1.mono hX.size))⟩
      · intro l vs X A hA ⟨hV, hS⟩ hl hd hcl
        have hX := hS.1 hl
        have hB := hX
        have a2 := eO hA 2 rfl
        have a27 := eN hA 27 6 hd hV rfl
        have hg := hJ.grow hX
        refine show_skip (X' := X.setRow (w.heap.size + 1) (k.set d (witR (k.r d) i.imm)).a) (run_st_row 43 _ _ rfl (w.heap.size + 1) _ _ _ a2 a27 hg.n (by kernel_rfl) (by kernel_rfl) (Kn.a_one _)) ⟨hV.upd (fun _ h => by cases h), Pre1.last (hg.setN _)⟩
    case hend =>
      intro l vs X hl ⟨hV, hS⟩
      have hX := hS.2 (hl 7 (by decide))
      have v0 := hV 0 _ (hl 0 (by decide)) rfl
      have v1 := hV 1 _ (hl 1 (by decide)) rfl
      have v2 := hV 2 _ (hl 2 (by decide)) rfl
      have v3 := hV 3 _ (hl 3 (by decide)) rfl
      have v4 := hV 4 _ (hl 4 (by decide)) rfl
      have v5 := hV 5 _ (hl 5 (by decide)) rfl
      have v6 := hV 6 _ (hl 6 (by decide)) rfl
      clear hV hS hl
      simp only [canonL, if_true, v0, v1, v2, v3, v4, v5, v6]
      clear v0 v1 v2 v3 v4 v5 v6
      go_simp
      clear hJ hz4
      have hJ := hX
      clear hX
      obtain ⟨W5, hren⟩ : ∃ Z, Z = X := ⟨_, rfl⟩
      subst hren
      have hz5 := hJ.size
      go_upto_region 6 with fail
      refine wp_region_inv (Φ := fun l vs X => Vals (fun q => match q with | 0 => some (.agg (k.set d (witR (k.r d) i.imm)).a) | 1 => some (.agg (noK).a) | _ => none) l vs ∧ Pre2 2 3 (Below W5.heap.size W5) (JW w i c k (k.set d (witR (k.r d) i.imm)) (noK) b6 b7 (k.r d) (fromR i.imm i.imm)) (JW w i c k (k.set d (witR (k.r d) i.imm)) (noK) b6 b7 (k.r d) (fromR i.imm i.imm)) l X) (PQ := fun _ _ => False)
        (by kernel_rfl) (by kernel_rfl) (by kernel_rfl) (by kernel_rfl) ⟨Vals.none _ _, Pre2.start ((Below.refl _ _).drew)⟩ ?hop ?hend (fun _ _ _ _ h => h.elim)
      case hop =>
        refine ⟨?_, ?_, ?_, ?_, trivial⟩
        · intro l vs X A hA ⟨hV, hS⟩ hl hd hcl
          have hj := nY 2 hcl hl
          have hk := nY 3 hcl hl
          have hX := hS.1 hj
          have hB := hX
          have a2 := eO hA 2 rfl
          refine show_value (v := .agg (k.set d (witR (k.r d) i.imm)).a) (X' := X) (run_ld 43 _ rfl _ a2 (ld_row (l := (k.set d (witR (k.r d) i.imm)).cells) (has_whole (hJ.grow hB).n) (by kernel_rfl))) ⟨hV.upd (fun _ h => Option.some.inj h), Pre2.keep hj hk (by decide) (by decide) (hX)⟩
        · intro l vs X A hA ⟨hV, hS⟩ hl hd hcl
          have hk := nY 3 hcl hl
          have a3 := eO hA 3 rfl
          cases hj : l 2 with
          | true =>
            have hX := hS.2.1 hj hk
            exact show_value (v := .agg (noK).a) (X' := X) (run_ld 43 _ rfl _ a3 (ld_row (l := (noK).cells) (has_whole hX.j) (by kernel_rfl))) ⟨hV.upd (fun _ h => Option.some.inj h), Pre2.keepMid hj hk (by decide) (by decide) hX⟩
          | false =>
            have hX := hS.1 hj
            have hB := hX
            exact show_value (v := .agg (noK).a) (X' := X) (run_ld 43 _ rfl _ a3 (ld_row (l := (noK).cells) (has_whole (hJ.grow hB).j) (by kernel_rfl))) ⟨hV.upd (fun _ h => Option.some.inj h), Pre2.keep hj hk (by decide) (by decide) hX⟩
        · intro l vs X A hA ⟨hV, hS⟩ hl hd hcl
          have hk := nY 3 hcl hl
          have hX := hS.1 hl
          have a2 := eO hA 2 rfl
          have a28 := eN hA 28 0 hd hV rfl
          have hg := hJ.grow hX
          refine show_skip (X' := X.setRow (w.heap.size + 1) (k.set d (witR (k.r d) i.imm)).a) (run_st_row 43 _ _ rfl (w.heap.size + 1) _ _ _ a2 a28 hg.n (by kernel_rfl) (by kernel_rfl) (Kn.a_one _)) ⟨hV.upd (fun _ h => by cases h), Pre2.mid hk (by decide) (hg.setN _)⟩
        · intro l vs X A hA ⟨hV, hS⟩ hl hd hcl
          have hX := hS.2.1 (hd 2 (by kernel_rfl)) hl
          have a3 := eO hA 3 rfl
          have a29 := eN hA 29 1 hd hV rfl
          refine show_skip (X' := X.setRow (w.heap.size + 2) (noK).a) (run_st_row 43 _ _ rfl (w.heap.size + 2) _ _ _ a3 a29 hX.j (by kernel_rfl) (by kernel_rfl) (Kn.a_one _)) ⟨hV.upd (fun _ h => by cases h), Pre2.last (hd 2 (by kernel_rfl)) (hX.setJ _)⟩
      case hend =>
        intro l vs X hl ⟨hV, hS⟩
        have hX := hS.2.2 (hl 3 (by decide))
        have v0 := hV 0 _ (hl 0 (by decide)) rfl
        have v1 := hV 1 _ (hl 1 (by decide)) rfl
        clear hV hS hl
        simp only [canonL, if_true, v0, v1]
        clear v0 v1
        go_simp
        go_wp2_with fail
        refine bodyPost_ret (results_rows2 rfl _ _ (w.heap.size + 1) (w.heap.size + 2) 43 _ _ _ rfl rfl hX.n hX.j Tryd.underlying43 rfl (by kernel_rfl) (by kernel_rfl)) rfl ?_
        exact ⟨rfl, hX.below⟩
end Go.Proofs.YtodkehpldlmgaaaDoor
/- jlti. -/
namespace Go.Proofs.YtodkehpldlmgaaaDoor
open Go.RowKit
set_option maxRecDepth 10000 in
set_option maxHeartbeats 2000000 in
theorem jlti_no (i : Ins) (c : Int) (k : Kn) (d : Nat) (w : World) (hdst : i.dst = (d : Int)) (hdn : d < 10) (hk0 : k.r d = noR) :
    Calls Tryd.prog 62 #[.agg (stA i c k)] w fun e w' => e = .panicked Wrong.unset.entry ∧ Below w.heap.size w w' := by
  obtain ⟨W0, hW0⟩ : ∃ W0, W0 = ((w.alloc (.cells (stA i c k) 82)).alloc (.cells noK.a 43)).alloc (.cells noK.a 43) := ⟨_, rfl⟩
  obtain ⟨hst, h3, h4, hB0, hz0⟩ := ways_world i c k w W0 hW0
  have HZ : Hid (W0.heap.size = w.heap.size + 3) := hz0
  clear hz0
  go_enter Tryd.func62, Tryd.ntmps62
  go_upto_region 1 with fail
  refine named2 (p := fun X => Code.wp _ _ _ _ X) ?_
  intro W9 hW9
  have hW : W0 = W9 := hW0.trans hW9.symm
  subst hW
  clear hW9 hW0
  refine wp_region_inv (Φ := fun l vs X => Vals (fun q => match q with | 0 => some (.agg (stA i c k)) | 2 => some (.pointer (some ⟨w.heap.size, 0, none⟩)) | 3 => some (.pointer (some ⟨w.heap.size, 4, none⟩)) | 4 => some (.int .u32 (i.imm : Int)) | 7 => some (.int .u32 (i.imm : Int)) | _ => none) l vs ∧ Ph1 6 (Two W0.heap.size 40 noR.a W0 5 99) (fun vs X => Held W0.heap.size 40 noR.a W0 (vs 5) X) l vs X ∧ l 1 = false) (PQ := fun q X => q = Wrong.unset.entry ∧ Below W0.heap.size W0 X)
    (by kernel_rfl) (by kernel_rfl) (by kernel_rfl) (by kernel_rfl) ⟨Vals.none _ _, Ph1.start (Two.start ((Below.refl _ _).drew) (Nat.le_refl _)), rfl⟩ ?hop ?hend (fun c a X hq hp => ⟨hq, by rw [hp.1]; exact ⟨rfl, hB0.trans (hp.2.mono hB0.size)⟩⟩)
  case hop =>
    refine ⟨?_, ?_, ?_, ?_, ?_, ?_, ?_, ?_, trivial⟩
    · intro l vs X A hA ⟨hV, hS, hN1⟩ hl hd hcl
      have hk := nY 6 hcl hl
      have hX := hS.1 hk
      have hB := hX.below
      have a1 := eO hA 1 rfl
      refine show_value (v := .agg (stA i c k)) (X' := X) (run_ld 82 _ rfl _ a1 (ld_row (l := stCells i c k) (has_whole (hst.below hB hst.lt)) (by kernel_rfl))) ⟨hV.upd (fun _ h => Option.some.inj h), Ph1.keep hk (by decide) (hX.grow (Below.refl _ _) (by decide) (by decide) _), (upd_other _ _ (by decide)).trans hN1⟩
    · intro l vs X A hA ⟨hV, hS, hN1⟩ hl hd hcl
      have hk := nY 6 hcl hl
      have hX := hS.1 hk
      have hB := hX.below
      have a6 := eN hA 6 0 hd hV rfl
      have aF0 : A.eval (.func 80) = .func (.func 80) #[] #[] := rfl
      refine show_call (f := 80) (args := #[.agg (stA i c k)]) ?_ (dst_no i c k d X hdst hdn hk0) ?_
      · generalize A.eval = ρ at *
        clear hA hl hd hcl hV hS
        go_simp
      · rintro e X' ⟨rfl, hB1⟩
        exact .inr ⟨_, rfl, rfl, hB.trans (hB1.mono hX.size)⟩
    · intro l vs X A hA ⟨hV, hS, hN1⟩ hl hd hcl
      have a1 := eO hA 1 rfl
      have hB : Below W0.heap.size W0 X := by
        cases hk : l 6 with
        | true => exact (hS.2 hk).choose_spec.2.2.2
        | false => exact (hS.1 hk).below
      have hP : ∀ v, Ph1 6 (Two W0.heap.size 40 noR.a W0 5 99) (fun vs X => Held W0.heap.size 40 noR.a W0 (vs 5) X) (upd l 2 true) (upd vs 2 v) X := fun v => by
        cases hk : l 6 with
        | true => exact Ph1.keepT hk (by decide) (hS.2 hk)
        | false => exact Ph1.keep hk (by decide) ((hS.1 hk).grow (Below.refl _ _) (by decide) (by decide) _)
      refine show_value (v := .pointer (some ⟨w.heap.size, 0, none⟩)) (X' := X) ?_ ⟨hV.upd (fun _ h => Option.some.inj h), hP _, (upd_other _ _ (by decide)).trans hN1⟩
      clear hP
      generalize A.eval = ρ at *
      clear hA hl hd hcl hV hS
      go_simp
    · intro l vs X A hA ⟨hV, hS, hN1⟩ hl hd hcl
      have a8 := eN hA 8 2 hd hV rfl
      have hB : Below W0.heap.size W0 X := by
        cases hk : l 6 with
        | true => exact (hS.2 hk).choose_spec.2.2.2
        | false => exact (hS.1 hk).below
      have hP : ∀ v, Ph1 6 (Two W0.heap.size 40 noR.a W0 5 99) (fun vs X => Held W0.heap.size 40 noR.a W0 (vs 5) X) (upd l 3 true) (upd vs 3 v) X := fun v => by
        cases hk : l 6 with
        | true => exact Ph1.keepT hk (by decide) (hS.2 hk)
        | false => exact Ph1.keep hk (by decide) ((hS.1 hk).grow (Below.refl _ _) (by decide) (by decide) _)
      refine show_value (v := .pointer (some ⟨w.heap.size, 4, none⟩)) (X' := X) ?_ ⟨hV.upd (fun _ h => Option.some.inj h), hP _, (upd_other _ _ (by decide)).trans hN1⟩
      clear hP
      generalize A.eval = ρ at *
      clear hA hl hd hcl hV hS
      go_simp
    · intro l vs X A hA ⟨hV, hS, hN1⟩ hl hd hcl
      have a9 := eN hA 9 3 hd hV rfl
      have hB : Below W0.heap.size W0 X := by
        cases hk : l 6 with
        | true => exact (hS.2 hk).choose_spec.2.2.2
        | false => exact (hS.1 hk).below
      have hP : ∀ v, Ph1 6 (Two W0.heap.size 40 noR.a W0 5 99) (fun vs X => Held W0.heap.size 40 noR.a W0 (vs 5) X) (upd l 4 true) (upd vs 4 v) X := fun v => by
        cases hk : l 6 with
        | true => exact Ph1.keepT hk (by decide) (hS.2 hk)
        | false => exact Ph1.keep hk (by decide) ((hS.1 hk).grow (Below.refl _ _) (by decide) (by decide) _)
      have cc : X.cell? ⟨w.heap.size, 4, none⟩ = some (.int .u32 (i.imm : Int)) := (hst.below hB hst.lt).cell 4
      refine show_value (v := .int .u32 (i.imm : Int)) (X' := X) ?_ ⟨hV.upd (fun _ h => Option.some.inj h), hP _, (upd_other _ _ (by decide)).trans hN1⟩
      clear hP
      generalize A.eval = ρ at *
      clear hA hl hd hcl hV hS
      go_simp
    · intro l vs X A hA ⟨hV, hS, hN1⟩ hl hd hcl
      have hk := nY 6 hcl hl
      have hX := hS.1 hk
      have hB := hX.below
      refine show_value (v := .pointer (some ⟨X.heap.size, 0, none⟩)) (X' := X.alloc (.cells noR.a 40)) ?_ ⟨hV.upd (fun _ h => by cases h), Ph1.keep hk (by decide) (hX.mkFst (by decide)), (upd_other _ _ (by decide)).trans hN1⟩
      generalize A.eval = ρ at *
      clear hA hl hd hcl hV hS
      rfl
    · intro l vs X A hA ⟨hV, hS, hN1⟩ hl hd hcl
      have hX := hS.1 hl
      have hB := hX.below
      exact absurd (hd 1 (by kernel_rfl)) (by rw [hN1]; decide)
    · intro l vs X A hA ⟨hV, hS, hN1⟩ hl hd hcl
      have a10 := eN hA 10 4 hd hV rfl
      have hB : Below W0.heap.size W0 X := by
        cases hk : l 6 with
        | true => exact (hS.2 hk).choose_spec.2.2.2
        | false => exact (hS.1 hk).below
      have hP : ∀ v, Ph1 6 (Two W0.heap.size 40 noR.a W0 5 99) (fun vs X => Held W0.heap.size 40 noR.a W0 (vs 5) X) (upd l 7 true) (upd vs 7 v) X := fun v => by
        cases hk : l 6 with
        | true => exact Ph1.keepT hk (by decide) (hS.2 hk)
        | false => exact Ph1.keep hk (by decide) ((hS.1 hk).grow (Below.refl _ _) (by decide) (by decide) _)
      refine show_value (v := .int .u32 (i.imm : Int)) (X' := X) ?_ ⟨hV.upd (fun _ h => Option.some.inj h), hP _, (upd_other _ _ (by decide)).trans hN1⟩
      clear hP
      generalize A.eval = ρ at *
      clear hA hl hd hcl hV hS
      go_simp
  case hend =>
    intro l vs X hl ⟨hV, hS, hN1⟩
    exact absurd (hl 1 (by decide)) (by rw [hN1]; decide)
set_option maxRecDepth 10000 in
set_option maxHeartbeats 2000000 in
theorem jlti_11 (i : Ins) (c : Int) (k : Kn) (d : Nat) (w : World) (hdst : i.dst = (d : Int)) (hdn : d < 10) (hk0 : k.r d ≠ noR) (hok : (k.r d).Ok) (him : i.imm < 4294967296) (ha : (k.r d).least < i.imm) (hb : i.imm ≤ (k.r d).great) :
    Calls Tryd.prog 62 #[.agg (stA i c k)] w fun e w' => e = .returned (two (k.set d (atLeastR (k.r d) i.imm)) (k.set d (atMostR (k.r d) (i.imm - 1)))) ∧ Below w.heap.size w w' := by
  obtain ⟨W0, hW0⟩ : ∃ W0, W0 = ((w.alloc (.cells (stA i c k) 82)).alloc (.cells noK.a 43)).alloc (.cells noK.a 43) := ⟨_, rfl⟩
  obtain ⟨hst, h3, h4, hB0, hz0⟩ := ways_world i c k w W0 hW0
  have HZ : Hid (W0.heap.size = w.heap.size + 3) := hz0
  clear hz0
  go_enter Tryd.func62, Tryd.ntmps62
  go_upto_region 1 with fail
  refine named2 (p := fun X => Code.wp _ _ _ _ X) ?_
  intro W9 hW9
  have hW : W0 = W9 := hW0.trans hW9.symm
  subst hW
  clear hW9 hW0
  refine wp_region_inv (Φ := fun l vs X => Vals (fun q => match q with | 0 => some (.agg (stA i c k)) | 1 => some ((k.r d).v) | 2 => some (.pointer (some ⟨w.heap.size, 0, none⟩)) | 3 => some (.pointer (some ⟨w.heap.size, 4, none⟩)) | 4 => some (.int .u32 (i.imm : Int)) | 7 => some (.int .u32 (i.imm : Int)) | _ => none) l vs ∧ Ph1 6 (Two W0.heap.size 40 noR.a W0 5 99) (fun vs X => Held W0.heap.size 40 (k.r d).a W0 (vs 5) X) l vs X) (PQ := fun _ _ => False)
    (by kernel_rfl) (by kernel_rfl) (by kernel_rfl) (by kernel_rfl) ⟨Vals.none _ _, Ph1.start (Two.start ((Below.refl _ _).drew) (Nat.le_refl _))⟩ ?hop ?hend (fun _ _ _ _ h => h.elim)
  case hop =>
    refine ⟨?_, ?_, ?_, ?_, ?_, ?_, ?_, ?_, trivial⟩
    · intro l vs X A hA ⟨hV, hS⟩ hl hd hcl
      have hk := nY 6 hcl hl
      have hX := hS.1 hk
      have hB := hX.below
      have a1 := eO hA 1 rfl
      refine show_value (v := .agg (stA i c k)) (X' := X) (run_ld 82 _ rfl _ a1 (ld_row (l := stCells i c k) (has_whole (hst.below hB hst.lt)) (by kernel_rfl))) ⟨hV.upd (fun _ h => Option.some.inj h), Ph1.keep hk (by decide) (hX.grow (Below.refl _ _) (by decide) (by decide) _)⟩
    · intro l vs X A hA ⟨hV, hS⟩ hl hd hcl
      have hk := nY 6 hcl hl
      have hX := hS.1 hk
      have hB := hX.below
      have a6 := eN hA 6 0 hd hV rfl
      have aF0 : A.eval (.func 80) = .func (.func 80) #[] #[] := rfl
      refine show_call (f := 80) (args := #[.agg (stA i c k)]) ?_ (dst_ok i c k d X hdst hdn hk0) ?_
      · generalize A.eval = ρ at *
        clear hA hl hd hcl hV hS
        go_simp
      · rintro e X' ⟨rfl, hB1⟩
        exact .inl ⟨_, rfl, hV.upd (fun _ h => Option.some.inj h), Ph1.keep hk (by decide) (hX.grow hB1 (by decide) (by decide) _)⟩
    · intro l vs X A hA ⟨hV, hS⟩ hl hd hcl
      have a1 := eO hA 1 rfl
      have hB : Below W0.heap.size W0 X := by
        cases hk : l 6 with
        | true => exact (hS.2 hk).choose_spec.2.2.2
        | false => exact (hS.1 hk).below
      have hP : ∀ v, Ph1 6 (Two W0.heap.size 40 noR.a W0 5 99) (fun vs X => Held W0.heap.size 40 (k.r d).a W0 (vs 5) X) (upd l 2 true) (upd vs 2 v) X := fun v => by
        cases hk : l 6 with
        | true => exact Ph1.keepT hk (by decide) (hS.2 hk)
        | false => exact Ph1.keep hk (by decide) ((hS.1 hk).grow (Below.refl _ _) (by decide) (by decide) _)
      refine show_value (v := .pointer (some ⟨w.heap.size, 0, none⟩)) (X' := X) ?_ ⟨hV.upd (fun _ h => Option.some.inj h), hP _⟩
      clear hP
      generalize A.eval = ρ at *
      clear hA hl hd hcl hV hS
      go_simp
    · intro l vs X A hA ⟨hV, hS⟩ hl hd hcl
      have a8 := eN hA 8 2 hd hV rfl
      have hB : Below W0.heap.size W0 X := by
        cases hk : l 6 with
        | true => exact (hS.2 hk).choose_spec.2.2.2
        | false => exact (hS.1 hk).below
      have hP : ∀ v, Ph1 6 (Two W0.heap.size 40 noR.a W0 5 99) (fun vs X => Held W0.heap.size 40 (k.r d).a W0 (vs 5) X) (upd l 3 true) (upd vs 3 v) X := fun v => by
        cases hk : l 6 with
        | true => exact Ph1.keepT hk (by decide) (hS.2 hk)
        | false => exact Ph1.keep hk (by decide) ((hS.1 hk).grow (Below.refl _ _) (by decide) (by decide) _)
      refine show_value (v := .pointer (some ⟨w.heap.size, 4, none⟩)) (X' := X) ?_ ⟨hV.upd (fun _ h => Option.some.inj h), hP _⟩
      clear hP
      generalize A.eval = ρ at *
      clear hA hl hd hcl hV hS
      go_simp
    · intro l vs X A hA ⟨hV, hS⟩ hl hd hcl
      have a9 := eN hA 9 3 hd hV rfl
      have hB : Below W0.heap.size W0 X := by
        cases hk : l 6 with
        | true => exact (hS.2 hk).choose_spec.2.2.2
        | false => exact (hS.1 hk).below
      have hP : ∀ v, Ph1 6 (Two W0.heap.size 40 noR.a W0 5 99) (fun vs X => Held W0.heap.size 40 (k.r d).a W0 (vs 5) X) (upd l 4 true) (upd vs 4 v) X := fun v => by
        cases hk : l 6 with
        | true => exact Ph1.keepT hk (by decide) (hS.2 hk)
        | false => exact Ph1.keep hk (by decide) ((hS.1 hk).grow (Below.refl _ _) (by decide) (by decide) _)
      have cc : X.cell? ⟨w.heap.size, 4, none⟩ = some (.int .u32 (i.imm : Int)) := (hst.below hB hst.lt).cell 4
      refine show_value (v := .int .u32 (i.imm : Int)) (X' := X) ?_ ⟨hV.upd (fun _ h => Option.some.inj h), hP _⟩
      clear hP
      generalize A.eval = ρ at *
      clear hA hl hd hcl hV hS
      go_simp
    · intro l vs X A hA ⟨hV, hS⟩ hl hd hcl
      have hk := nY 6 hcl hl
      have hX := hS.1 hk
      have hB := hX.below
      refine show_value (v := .pointer (some ⟨X.heap.size, 0, none⟩)) (X' := X.alloc (.cells noR.a 40)) ?_ ⟨hV.upd (fun _ h => by cases h), Ph1.keep hk (by decide) (hX.mkFst (by decide))⟩
      generalize A.eval = ρ at *
      clear hA hl hd hcl hV hS
      rfl
    · intro l vs X A hA ⟨hV, hS⟩ hl hd hcl
      have hX := hS.1 hl
      have hB := hX.below
      have a4 := eval_new hA 4 5 (by kernel_rfl) (by kernel_rfl) (by kernel_rfl) (hd 5 (by kernel_rfl)) (rfl : vs 5 = vs 5)
      have a7 := eN hA 7 1 hd hV rfl
      obtain ⟨b, hb, hH, hT⟩ := hX.held (hd 5 (by kernel_rfl)) ((k.r d).a)
      rw [hb] at a4
      exact show_skip (run_st_row 40 _ _ rfl b _ _ _ a4 a7 hH (by kernel_rfl) (by kernel_rfl) (Rg.a_one _)) ⟨hV.upd (fun _ h => by cases h), Ph1.last hT⟩
    · intro l vs X A hA ⟨hV, hS⟩ hl hd hcl
      have a10 := eN hA 10 4 hd hV rfl
      have hB : Below W0.heap.size W0 X := by
        cases hk : l 6 with
        | true => exact (hS.2 hk).choose_spec.2.2.2
        | false => exact (hS.1 hk).below
      have hP : ∀ v, Ph1 6 (Two W0.heap.size 40 noR.a W0 5 99) (fun vs X => Held W0.heap.size 40 (k.r d).a W0 (vs 5) X) (upd l 7 true) (upd vs 7 v) X := fun v => by
        cases hk : l 6 with
        | true => exact Ph1.keepT hk (by decide) (hS.2 hk)
        | false => exact Ph1.keep hk (by decide) ((hS.1 hk).grow (Below.refl _ _) (by decide) (by decide) _)
      refine show_value (v := .int .u32 (i.imm : Int)) (X' := X) ?_ ⟨hV.upd (fun _ h => Option.some.inj h), hP _⟩
      clear hP
      generalize A.eval = ρ at *
      clear hA hl hd hcl hV hS
      go_simp
  case hend =>
    intro l vs X hl ⟨hV, hS⟩
    have hX := hS.2 (hl 6 (by decide))
    have v0 := hV 0 _ (hl 0 (by decide)) rfl
    have v1 := hV 1 _ (hl 1 (by decide)) rfl
    have v2 := hV 2 _ (hl 2 (by decide)) rfl
    have v3 := hV 3 _ (hl 3 (by decide)) rfl
    have v4 := hV 4 _ (hl 4 (by decide)) rfl
    have v7 := hV 7 _ (hl 7 (by decide)) rfl
    clear hV hS hl
    obtain ⟨b6, u6, g6, hb6, hB9⟩ := hX
    simp only [canonL, if_true, v0, v1, v2, v3, v4, v7, u6]
    clear v0 v1 v2 v3 v4 v7 u6
    go_simp
    have hJ : JW w i c k (noK) (noK) b6 b6 (k.r d) (k.r d) X := ⟨hst.below hB9 hst.lt, h3.below hB9 h3.lt, h4.below hB9 h4.lt, hb6, hb6, hB0.trans (hB9.mono hB0.size), by have := HZ.out; omega, by have := HZ.out; omega⟩
    obtain ⟨W1, hren⟩ : ∃ Z, Z = X := ⟨_, rfl⟩
    subst hren
    clear hst h3 h4 hb6 hB9 g6 hB0 HZ
    have hz1 := hJ.size
    have c1 : W1.cell? ⟨b6, 1, none⟩ = some (.int .u32 ((k.r d).least : Int)) := hJ.d.cell 1
    have ha' : (((k.r d).least : Int) < (i.imm : Int)) := by omega
    have HA : Hid (((k.r d).least < i.imm)) := ha
    clear ha
    have HBB : Hid ((i.imm ≤ (k.r d).great)) := hb
    clear hb
    have HIM : Hid (i.imm < 4294967296) := him
    clear him
    go_upto_region 3 with fail
    clear c1 ha'
    refine wp_region_inv (Φ := fun l vs X => Vals (fun q => match q with | 0 => some (.agg (stA i c k)) | 1 => some ((k.r d).v) | 2 => some (.int .u32 (i.imm : Int)) | 3 => some (.int .u32 ((i.imm - 1 : Nat) : Int)) | 4 => some ((atMostR (k.r d) (i.imm - 1)).v) | 5 => some (.agg (k.set d (atMostR (k.r d) (i.imm - 1))).a) | _ => none) l vs ∧ Pre1 6 (Below W1.heap.size W1) (JW w i c k (noK) (k.set d (atMostR (k.r d) (i.imm - 1))) b6 b6 (k.r d) (k.r d)) l X) (PQ := fun _ _ => False)
      (by kernel_rfl) (by kernel_rfl) (by kernel_rfl) (by kernel_rfl) ⟨Vals.none _ _, Pre1.start ((Below.refl _ _).drew)⟩ ?hop ?hend (fun _ _ _ _ h => h.elim)
    case hop =>
      refine ⟨?_, ?_, ?_, ?_, ?_, ?_, ?_, trivial⟩
      · intro l vs X A hA ⟨hV, hS⟩ hl hd hcl
        have hk := nY 6 hcl hl
        have hX := hS.1 hk
        have hB := hX
        have a1 := eO hA 1 rfl
        refine show_value (v := .agg (stA i c k)) (X' := X) (run_ld 82 _ rfl _ a1 (ld_row (l := stCells i c k) (has_whole (hJ.grow hB).st) (by kernel_rfl))) ⟨hV.upd (fun _ h => Option.some.inj h), Pre1.keep hk (by decide) (hX)⟩
      · intro l vs X A hA ⟨hV, hS⟩ hl hd hcl
        have hk := nY 6 hcl hl
        have hX := hS.1 hk
        have hB := hX
        have a4 := eO hA 4 rfl
        refine show_value (v := (k.r d).v) (X' := X) (run_ld 40 _ rfl _ a4 (ld_row (l := (k.r d).cells) (has_whole (hJ.grow hB).d) (by kernel_rfl))) ⟨hV.upd (fun _ h => Option.some.inj h), Pre1.keep hk (by decide) (hX)⟩
      · intro l vs X A hA ⟨hV, hS⟩ hl hd hcl
        have hk := nY 6 hcl hl
        have hX := hS.1 hk
        have hB := hX
        have a5 := eO hA 5 rfl
        refine show_value (v := .int .u32 (i.imm : Int)) (X' := X) ?_ ⟨hV.upd (fun _ h => Option.some.inj h), Pre1.keep hk (by decide) (hX)⟩
        generalize A.eval = ρ at *
        clear hA hl hd hcl hV hS
        go_simp
      · intro l vs X A hA ⟨hV, hS⟩ hl hd hcl
        have hk := nY 6 hcl hl
        have hX := hS.1 hk
        have hB := hX
        have a17 := eN hA 17 2 hd hV rfl
        have aC0 : A.eval (.const (.int .u32 1)) = (.int .u32 1) := rfl
        have q1 : IntKind.u32.wrap ((i.imm : Int) - 1) = ((i.imm - 1 : Nat) : Int) := by have := HA.out; have := HIM.out; rw [IntKind.wrap_u32]; omega
        refine show_value (v := .int .u32 ((i.imm - 1 : Nat) : Int)) (X' := X) ?_ ⟨hV.upd (fun _ h => Option.some.inj h), Pre1.keep hk (by decide) (hX)⟩
        generalize ((i.imm - 1 : Nat) : Int) = z at *
        generalize A.eval = ρ at *
        clear hA hl hd hcl hV hS
        go_simp
      · intro l vs X A hA ⟨hV, hS⟩ hl hd hcl
        have hk := nY 6 hcl hl
        have hX := hS.1 hk
        have hB := hX
        have a16 := eN hA 16 1 hd hV rfl
        have a18 := eN hA 18 3 hd hV rfl
        have aF0 : A.eval (.func 90) = .func (.func 90) #[] #[] := rfl
        refine show_call (f := 90) (args := #[(k.r d).v, .int .u32 ((i.imm - 1 : Nat) : Int)]) ?_ (atMost_any (k.r d) (i.imm - 1) hok X) ?_
        · generalize A.eval = ρ at *
          clear hA hl hd hcl hV hS
          go_simp
        · rintro e X' ⟨rfl, hB1⟩
          exact .inl ⟨_, rfl, hV.upd (fun _ h => Option.some.inj h), Pre1.keep hk (by decide) (hX.trans (hB1.mono hX.size))⟩
      · intro l vs X A hA ⟨hV, hS⟩ hl hd hcl
        have hk := nY 6 hcl hl
        have hX := hS.1 hk
        have hB := hX
        have a15 := eN hA 15 0 hd hV rfl
        have a19 := eN hA 19 4 hd hV rfl
        have aF0 : A.eval (.func 76) = .func (.func 76) #[] #[] := rfl
        refine show_call (f := 76) (args := #[.agg (stA i c k), (atMostR (k.r d) (i.imm - 1)).v]) ?_ (with_any i c k d (atMostR (k.r d) (i.imm - 1)) X hdst hdn) ?_
        · generalize A.eval = ρ at *
          clear hA hl hd hcl hV hS
          go_simp
        · rintro e X' ⟨rfl, hB1⟩
          exact .inl ⟨_, rfl, hV.upd (fun _ h => Option.some.inj h), Pre1.keep hk (by decide) (hX.trans (hB1.mono hX.size))⟩
      · intro l vs X A hA ⟨hV, hS⟩ hl hd hcl
        have hX := hS.1 hl
        have hB := hX
        have a3 := eO hA 3 rfl
        have a20 := eN hA 20 5 hd hV rfl
        have hg := hJ.grow hX
        refine show_skip (X' := X.setRow (w.heap.size + 2) (k.set d (atMostR (k.r d) (i.imm - 1))).a) (run_st_row 43 _ _ rfl (w.heap.size + 2) _ _ _ a3 a20 hg.j (by kernel_rfl) (by kernel_rfl) (Kn.a_one _)) ⟨hV.upd (fun _ h => by cases h), Pre1.last (hg.setJ _)⟩
    case hend =>
      intro l vs X hl ⟨hV, hS⟩
      have hX := hS.2 (hl 6 (by decide))
      have v0 := hV 0 _ (hl 0 (by decide)) rfl
      have v1 := hV 1 _ (hl 1 (by decide)) rfl
      have v2 := hV 2 _ (hl 2 (by decide)) rfl
      have v3 := hV 3 _ (hl 3 (by decide)) rfl
      have v4 := hV 4 _ (hl 4 (by decide)) rfl
      have v5 := hV 5 _ (hl 5 (by decide)) rfl
      clear hV hS hl
      simp only [canonL, if_true, v0, v1, v2, v3, v4, v5]
      clear v0 v1 v2 v3 v4 v5
      go_simp
      clear hJ hz1
      have hJ := hX
      clear hX
      obtain ⟨W2, hren⟩ : ∃ Z, Z = X := ⟨_, rfl⟩
      subst hren
      have hz2 := hJ.size
      go_upto_region 4 with fail
      have c2 : W2.cell? ⟨b6, 2, none⟩ = some (.int .u32 ((k.r d).great : Int)) := hJ.d.cell 2
      have hb' : ((i.imm : Int) ≤ ((k.r d).great : Int)) := by have := HBB.out; omega
      go_upto_region 5 with fail
      clear c2 hb'
      refine wp_region_inv (Φ := fun l vs X => Vals (fun q => match q with | 0 => some (.agg (stA i c k)) | 1 => some ((k.r d).v) | 2 => some (.int .u32 (i.imm : Int)) | 3 => some ((atLeastR (k.r d) i.imm).v) | 4 => some (.agg (k.set d (atLeastR (k.r d) i.imm)).a) | _ => none) l vs ∧ Pre1 5 (Below W2.heap.size W2) (JW w i c k (k.set d (atLeastR (k.r d) i.imm)) (k.set d (atMostR (k.r d) (i.imm - 1))) b6 b6 (k.r d) (k.r d)) l X) (PQ := fun _ _ => False)
        (by kernel_rfl) (by kernel_rfl) (by kernel_rfl) (by kernel_rfl) ⟨Vals.none _ _, Pre1.start ((Below.refl _ _).drew)⟩ ?hop ?hend (fun _ _ _ _ h => h.elim)
      case hop =>
        refine ⟨?_, ?_, ?_, ?_, ?_, ?_, trivial⟩
        · intro l vs X A hA ⟨hV, hS⟩ hl hd hcl
          have hk := nY 5 hcl hl
          have hX := hS.1 hk
          have hB := hX
          have a1 := eO hA 1 rfl
          refine show_value (v := .agg (stA i c k)) (X' := X) (run_ld 82 _ rfl _ a1 (ld_row (l := stCells i c k) (has_whole (hJ.grow hB).st) (by kernel_rfl))) ⟨hV.upd (fun _ h => Option.some.inj h), Pre1.keep hk (by decide) (hX)⟩
        · intro l vs X A hA ⟨hV, hS⟩ hl hd hcl
          have hk := nY 5 hcl hl
          have hX := hS.1 hk
          have hB := hX
          have a4 := eO hA 4 rfl
          refine show_value (v := (k.r d).v) (X' := X) (run_ld 40 _ rfl _ a4 (ld_row (l := (k.r d).cells) (has_whole (hJ.grow hB).d) (by kernel_rfl))) ⟨hV.upd (fun _ h => Option.some.inj h), Pre1.keep hk (by decide) (hX)⟩
        · intro l vs X A hA ⟨hV, hS⟩ hl hd hcl
          have hk := nY 5 hcl hl
          have hX := hS.1 hk
          have hB := hX
          have a5 := eO hA 5 rfl
          refine show_value (v := .int .u32 (i.imm : Int)) (X' := X) ?_ ⟨hV.upd (fun _ h => Option.some.inj h), Pre1.keep hk (by decide) (hX)⟩
          generalize A.eval = ρ at *
          clear hA hl hd hcl hV hS
          go_simp
        · intro l vs X A hA ⟨hV, hS⟩ hl hd hcl
          have hk := nY 5 hcl hl
          have hX := hS.1 hk
          have hB := hX
          have a26 := eN hA 26 1 hd hV rfl
          have a27 := eN hA 27 2 hd hV rfl
          have aF0 : A.eval (.func 91) = .func (.func 91) #[] #[] := rfl
          refine show_call (f := 91) (args := #[(k.r d).v, .int .u32 (i.imm : Int)]) ?_ (atLeast_any (k.r d) i.imm hok X) ?_
          · generalize A.eval = ρ at *
            clear hA hl hd hcl hV hS
            go_simp
          · rintro e X' ⟨rfl, hB1⟩
            exact .inl ⟨_, rfl, hV.upd (fun _ h => Option.some.inj h), Pre1.keep hk (by decide) (hX.trans (hB1.mono hX.size))⟩
        · intro l vs X A hA ⟨hV, hS⟩ hl hd hcl
          have hk := nY 5 hcl hl
          have hX := hS.1 hk
          have hB := hX
          have a25 := eN hA 25 0 hd hV rfl
          have a28 := eN hA 28 3 hd hV rfl
          have aF0 : A.eval (.func 76) = .func (.func 76) #[] #[] := rfl
          refine show_call (f := 76) (args := #[.agg (stA i c k), (atLeastR (k.r d) i.imm).v]) ?_ (with_any i c k d (atLeastR (k.r d) i.imm) X hdst hdn) ?_
          · generalize A.eval = ρ at *
            clear hA hl hd hcl hV hS
            go_simp
          · rintro e X' ⟨rfl, hB1⟩
            exact .inl ⟨_, rfl, hV.upd (fun _ h => Option.some.inj h), Pre1.keep hk (by decide) (hX.trans (hB1.mono hX.size))⟩
        · intro l vs X A hA ⟨hV, hS⟩ hl hd hcl
          have hX := hS.1 hl
          have hB := hX
          have a2 := eO hA 2 rfl
          have a29 := eN hA 29 4 hd hV rfl
          have hg := hJ.grow hX
          refine show_skip (X' := X.setRow (w.heap.size + 1) (k.set d (atLeastR (k.r d) i.imm)).a) (run_st_row 43 _ _ rfl (w.heap.size + 1) _ _ _ a2 a29 hg.n (by kernel_rfl) (by kernel_rfl) (Kn.a_one _)) ⟨hV.upd (fun _ h => by cases h), Pre1.last (hg.setN _)⟩
      case hend =>
        intro l vs X hl ⟨hV, hS⟩
        have hX := hS.2 (hl 5 (by decide))
        have v0 := hV 0 _ (hl 0 (by decide)) rfl
        have v1 := hV 1 _ (hl 1 (by decide)) rfl
        have v2 := hV 2 _ (hl 2 (by decide)) rfl
        have v3 := hV 3 _ (hl 3 (by decide)) rfl
        have v4 := hV 4 _ (hl 4 (by decide)) rfl
        clear hV hS hl
        simp only [canonL, if_true, v0, v1, v2, v3, v4]
        clear v0 v1 v2 v3 v4
        go_simp
        clear hJ
        have hJ := hX
        clear hX
        obtain ⟨W5, hren⟩ : ∃ Z, Z = X := ⟨_, rfl⟩
        subst hren
        have hz5 := hJ.size
        go_upto_region 6 with fail
        refine wp_region_inv (Φ := fun l vs X => Vals (fun q => match q with | 0 => some (.agg (k.set d (atLeastR (k.r d) i.imm)).a) | 1 => some (.agg (k.set d (atMostR (k.r d) (i.imm - 1))).a) | _ => none) l vs ∧ Pre2 2 3 (Below W5.heap.size W5) (JW w i c k (k.set d (atLeastR (k.r d) i.imm)) (k.set d (atMostR (k.r d) (i.imm - 1))) b6 b6 (k.r d) (k.r d)) (JW w i c k (k.set d (atLeastR (k.r d) i.imm)) (k.set d (atMostR (k.r d) (i.imm - 1))) b6 b6 (k.r d) (k.r d)) l X) (PQ := fun _ _ => False)
          (by kernel_rfl) (by kernel_rfl) (by kernel_rfl) (by kernel_rfl) ⟨Vals.none _ _, Pre2.start ((Below.refl _ _).drew)⟩ ?hop ?hend (fun _ _ _ _ h => h.elim)
        case hop =>
          refine ⟨?_, ?_, ?_, ?_, trivial⟩
          · intro l vs X A hA ⟨hV, hS⟩ hl hd hcl
            have hj := nY 2 hcl hl
            have hk := nY 3 hcl hl
            have hX := hS.1 hj
            have hB := hX
            have a2 := eO hA 2 rfl
            refine show_value (v := .agg (k.set d (atLeastR (k.r d) i.imm)).a) (X' := X) (run_ld 43 _ rfl _ a2 (ld_row (l := (k.set d (atLeastR (k.r d) i.imm)).cells) (has_whole (hJ.grow hB).n) (by kernel_rfl))) ⟨hV.upd (fun _ h => Option.some.inj h), Pre2.keep hj hk (by decide) (by decide) (hX)⟩
          · intro l vs X A hA ⟨hV, hS⟩ hl hd hcl
            have hk := nY 3 hcl hl
            have a3 := eO hA 3 rfl
            cases hj : l 2 with
            | true =>
              have hX := hS.2.1 hj hk
              exact show_value (v := .agg (k.set d (atMostR (k.r d) (i.imm - 1))).a) (X' := X) (run_ld 43 _ rfl _ a3 (ld_row (l := (k.set d (atMostR (k.r d) (i.imm - 1))).cells) (has_whole hX.j) (by kernel_rfl))) ⟨hV.upd (fun _ h => Option.some.inj h), Pre2.keepMid hj hk (by decide) (by decide) hX⟩
            | false =>
              have hX := hS.1 hj
              have hB := hX
              exact show_value (v := .agg (k.set d (atMostR (k.r d) (i.imm - 1))).a) (X' := X) (run_ld 43 _ rfl _ a3 (ld_row (l := (k.set d (atMostR (k.r d) (i.imm - 1))).cells) (has_whole (hJ.grow hB).j) (by kernel_rfl))) ⟨hV.upd (fun _ h => Option.some.inj h), Pre2.keep hj hk (by decide) (by decide) hX⟩
          · intro l vs X A hA ⟨hV, hS⟩ hl hd hcl
            have hk := nY 3 hcl hl
            have hX := hS.1 hl
            have a2 := eO hA 2 rfl
            have a30 := eN hA 30 0 hd hV rfl
            have hg := hJ.grow hX
            refine show_skip (X' := X.setRow (w.heap.size + 1) (k.set d (atLeastR (k.r d) i.imm)).a) (run_st_row 43 _ _ rfl (w.heap.size + 1) _ _ _ a2 a30 hg.n (by kernel_rfl) (by kernel_rfl) (Kn.a_one _)) ⟨hV.upd (fun _ h => by cases h), Pre2.mid hk (by decide) (hg.setN _)⟩
          · intro l vs X A hA ⟨hV, hS⟩ hl hd hcl
            have hX := hS.2.1 (hd 2 (by kernel_rfl)) hl
            have a3 := eO hA 3 rfl
            have a31 := eN hA 31 1 hd hV rfl
            refine show_skip (X' := X.setRow (w.heap.size + 2) (k.set d (atMostR (k.r d) (i.imm - 1))).a) (run_st_row 43 _ _ rfl (w.heap.size + 2) _ _ _ a3 a31 hX.j (by kernel_rfl) (by kernel_rfl) (Kn.a_one _)) ⟨hV.upd (fun _ h => by cases h), Pre2.last (hd 2 (by kernel_rfl)) (hX.setJ _)⟩
        case hend =>
          intro l vs X hl ⟨hV, hS⟩
          have hX := hS.2.2 (hl 3 (by decide))
          have v0 := hV 0 _ (hl 0 (by decide)) rfl
          have v1 := hV 1 _ (hl 1 (by decide)) rfl
          clear hV hS hl
          simp only [canonL, if_true, v0, v1]
          clear v0 v1
          go_simp
          go_wp2_with fail
          refine bodyPost_ret (results_rows2 rfl _ _ (w.heap.size + 1) (w.heap.size + 2) 43 _ _ _ rfl rfl hX.n hX.j Tryd.underlying43 rfl (by kernel_rfl) (by kernel_rfl)) rfl ?_
          exact ⟨rfl, hX.below⟩
end Go.Proofs.YtodkehpldlmgaaaDoor
/- jlti, where one way alone is gone. -/
namespace Go.Proofs.YtodkehpldlmgaaaDoor
open Go.RowKit
set_option maxRecDepth 10000 in
set_option maxHeartbeats 2000000 in
theorem jlti_10 (i : Ins) (c : Int) (k : Kn) (d : Nat) (w : World) (hdst : i.dst = (d : Int)) (hdn : d < 10) (hk0 : k.r d ≠ noR) (hok : (k.r d).Ok) (him : i.imm < 4294967296) (ha : (k.r d).least < i.imm) (hb : ¬ i.imm ≤ (k.r d).great) :
    Calls Tryd.prog 62 #[.agg (stA i c k)] w fun e w' => e = .returned (two (noK) (k.set d (atMostR (k.r d) (i.imm - 1)))) ∧ Below w.heap.size w w' := by
  obtain ⟨W0, hW0⟩ : ∃ W0, W0 = ((w.alloc (.cells (stA i c k) 82)).alloc (.cells noK.a 43)).alloc (.cells noK.a 43) := ⟨_, rfl⟩
  obtain ⟨hst, h3, h4, hB0, hz0⟩ := ways_world i c k w W0 hW0
  have HZ : Hid (W0.heap.size = w.heap.size + 3) := hz0
  clear hz0
  go_enter Tryd.func62, Tryd.ntmps62
  go_upto_region 1 with fail
  refine named2 (p := fun X => Code.wp _ _ _ _ X) ?_
  intro W9 hW9
  have hW : W0 = W9 := hW0.trans hW9.symm
  subst hW
  clear hW9 hW0
  refine wp_region_inv (Φ := fun l vs X => Vals (fun q => match q with | 0 => some (.agg (stA i c k)) | 1 => some ((k.r d).v) | 2 => some (.pointer (some ⟨w.heap.size, 0, none⟩)) | 3 => some (.pointer (some ⟨w.heap.size, 4, none⟩)) | 4 => some (.int .u32 (i.imm : Int)) | 7 => some (.int .u32 (i.imm : Int)) | _ => none) l vs ∧ Ph1 6 (Two W0.heap.size 40 noR.a W0 5 99) (fun vs X => Held W0.heap.size 40 (k.r d).a W0 (vs 5) X) l vs X) (PQ := fun _ _ => False)
    (by kernel_rfl) (by kernel_rfl) (by kernel_rfl) (by kernel_rfl) ⟨Vals.none _ _, Ph1.start (Two.start ((Below.refl _ _).drew) (Nat.le_refl _))⟩ ?hop ?hend (fun _ _ _ _ h => h.elim)
  case hop =>
    refine ⟨?_, ?_, ?_, ?_, ?_, ?_, ?_, ?_, trivial⟩
    · intro l vs X A hA ⟨hV, hS⟩ hl hd hcl
      have hk := nY 6 hcl hl
      have hX := hS.1 hk
      have hB := hX.below
      have a1 := eO hA 1 rfl
      refine show_value (v := .agg (stA i c k)) (X' := X) (run_ld 82 _ rfl _ a1 (ld_row (l := stCells i c k) (has_whole (hst.below hB hst.lt)) (by kernel_rfl))) ⟨hV.upd (fun _ h => Option.some.inj h), Ph1.keep hk (by decide) (hX.grow (Below.refl _ _) (by decide) (by decide) _)⟩
    · intro l vs X A hA ⟨hV, hS⟩ hl hd hcl
      have hk := nY 6 hcl hl
      have hX := hS.1 hk
      have hB := hX.below
      have a6 := eN hA 6 0 hd hV rfl
      have aF0 : A.eval (.func 80) = .func (.func 80) #[] #[] := rfl
      refine show_call (f := 80) (args := #[.agg (stA i c k)]) ?_ (dst_ok i c k d X hdst hdn hk0) ?_
      · generalize A.eval = ρ at *
        clear hA hl hd hcl hV hS
        go_simp
      · rintro e X' ⟨rfl, hB1⟩
        exact .inl ⟨_, rfl, hV.upd (fun _ h => Option.some.inj h), Ph1.keep hk (by decide) (hX.grow hB1 (by decide) (by decide) _)⟩
    · intro l vs X A hA ⟨hV, hS⟩ hl hd hcl
      have a1 := eO hA 1 rfl
      have hB : Below W0.heap.size W0 X := by
        cases hk : l 6 with
        | true => exact (hS.2 hk).choose_spec.2.2.2
        | false => exact (hS.1 hk).below
      have hP : ∀ v, Ph1 6 (Two W0.heap.size 40 noR.a W0 5 99) (fun vs X => Held W0.heap.size 40 (k.r d).a W0 (vs 5) X) (upd l 2 true) (upd vs 2 v) X := fun v => by
        cases hk : l 6 with
        | true => exact Ph1.keepT hk (by decide) (hS.2 hk)
        | false => exact Ph1.keep hk (by decide) ((hS.1 hk).grow (Below.refl _ _) (by decide) (by decide) _)
      refine show_value (v := .pointer (some ⟨w.heap.size, 0, none⟩)) (X' := X) ?_ ⟨hV.upd (fun _ h => Option.some.inj h), hP _⟩
      clear hP
      generalize A.eval = ρ at *
      clear hA hl hd hcl hV hS
      go_simp
    · intro l vs X A hA ⟨hV, hS⟩ hl hd hcl
      have a8 := eN hA 8 2 hd hV rfl
      have hB : Below W0.heap.size W0 X := by
        cases hk : l 6 with
        | true => exact (hS.2 hk).choose_spec.2.2.2
        | false => exact (hS.1 hk).below
      have hP : ∀ v, Ph1 6 (Two W0.heap.size 40 noR.a W0 5 99) (fun vs X => Held W0.heap.size 40 (k.r d).a W0 (vs 5) X) (upd l 3 true) (upd vs 3 v) X := fun v => by
        cases hk : l 6 with
        | true => exact Ph1.keepT hk (by decide) (hS.2 hk)
        | false => exact Ph1.keep hk (by decide) ((hS.1 hk).grow (Below.refl _ _) (by decide) (by decide) _)
      refine show_value (v := .pointer (some ⟨w.heap.size, 4, none⟩)) (X' := X) ?_ ⟨hV.upd (fun _ h => Option.some.inj h), hP _⟩
      clear hP
      generalize A.eval = ρ at *
      clear hA hl hd hcl hV hS
      go_simp
    · intro l vs X A hA ⟨hV, hS⟩ hl hd hcl
      have a9 := eN hA 9 3 hd hV rfl
      have hB : Below W0.heap.size W0 X := by
        cases hk : l 6 with
        | true => exact (hS.2 hk).choose_spec.2.2.2
        | false => exact (hS.1 hk).below
      have hP : ∀ v, Ph1 6 (Two W0.heap.size 40 noR.a W0 5 99) (fun vs X => Held W0.heap.size 40 (k.r d).a W0 (vs 5) X) (upd l 4 true) (upd vs 4 v) X := fun v => by
        cases hk : l 6 with
        | true => exact Ph1.keepT hk (by decide) (hS.2 hk)
        | false => exact Ph1.keep hk (by decide) ((hS.1 hk).grow (Below.refl _ _) (by decide) (by decide) _)
      have cc : X.cell? ⟨w.heap.size, 4, none⟩ = some (.int .u32 (i.imm : Int)) := (hst.below hB hst.lt).cell 4
      refine show_value (v := .int .u32 (i.imm : Int)) (X' := X) ?_ ⟨hV.upd (fun _ h => Option.some.inj h), hP _⟩
      clear hP
      generalize A.eval = ρ at *
      clear hA hl hd hcl hV hS
      go_simp
    · intro l vs X A hA ⟨hV, hS⟩ hl hd hcl
      have hk := nY 6 hcl hl
      have hX := hS.1 hk
      have hB := hX.below
      refine show_value (v := .pointer (some ⟨X.heap.size, 0, none⟩)) (X' := X.alloc (.cells noR.a 40)) ?_ ⟨hV.upd (fun _ h => by cases h), Ph1.keep hk (by decide) (hX.mkFst (by decide))⟩
      generalize A.eval = ρ at *
      clear hA hl hd hcl hV hS
      rfl
    · intro l vs X A hA ⟨hV, hS⟩ hl hd hcl
      have hX := hS.1 hl
      have hB := hX.below
      have a4 := eval_new hA 4 5 (by kernel_rfl) (by kernel_rfl) (by kernel_rfl) (hd 5 (by kernel_rfl)) (rfl : vs 5 = vs 5)
      have a7 := eN hA 7 1 hd hV rfl
      obtain ⟨b, hb, hH, hT⟩ := hX.held (hd 5 (by kernel_rfl)) ((k.r d).a)
      rw [hb] at a4
      exact show_skip (run_st_row 40 _ _ rfl b _ _ _ a4 a7 hH (by kernel_rfl) (by kernel_rfl) (Rg.a_one _)) ⟨hV.upd (fun _ h => by cases h), Ph1.last hT⟩
    · intro l vs X A hA ⟨hV, hS⟩ hl hd hcl
      have a10 := eN hA 10 4 hd hV rfl
      have hB : Below W0.heap.size W0 X := by
        cases hk : l 6 with
        | true => exact (hS.2 hk).choose_spec.2.2.2
        | false => exact (hS.1 hk).below
      have hP : ∀ v, Ph1 6 (Two W0.heap.size 40 noR.a W0 5 99) (fun vs X => Held W0.heap.size 40 (k.r d).a W0 (vs 5) X) (upd l 7 true) (upd vs 7 v) X := fun v => by
        cases hk : l 6 with
        | true => exact Ph1.keepT hk (by decide) (hS.2 hk)
        | false => exact Ph1.keep hk (by decide) ((hS.1 hk).grow (Below.refl _ _) (by decide) (by decide) _)
      refine show_value (v := .int .u32 (i.imm : Int)) (X' := X) ?_ ⟨hV.upd (fun _ h => Option.some.inj h), hP _⟩
      clear hP
      generalize A.eval = ρ at *
      clear hA hl hd hcl hV hS
      go_simp
  case hend =>
    intro l vs X hl ⟨hV, hS⟩
    have hX := hS.2 (hl 6 (by decide))
    have v0 := hV 0 _ (hl 0 (by decide)) rfl
    have v1 := hV 1 _ (hl 1 (by decide)) rfl
    have v2 := hV 2 _ (hl 2 (by decide)) rfl
    have v3 := hV 3 _ (hl 3 (by decide)) rfl
    have v4 := hV 4 _ (hl 4 (by decide)) rfl
    have v7 := hV 7 _ (hl 7 (by decide)) rfl
    clear hV hS hl
    obtain ⟨b6, u6, g6, hb6, hB9⟩ := hX
    simp only [canonL, if_true, v0, v1, v2, v3, v4, v7, u6]
    clear v0 v1 v2 v3 v4 v7 u6
    go_simp
    have hJ : JW w i c k (noK) (noK) b6 b6 (k.r d) (k.r d) X := ⟨hst.below hB9 hst.lt, h3.below hB9 h3.lt, h4.below hB9 h4.lt, hb6, hb6, hB0.trans (hB9.mono hB0.size), by have := HZ.out; omega, by have := HZ.out; omega⟩
    obtain ⟨W1, hren⟩ : ∃ Z, Z = X := ⟨_, rfl⟩
    subst hren
    clear hst h3 h4 hb6 hB9 g6 hB0 HZ
    have hz1 := hJ.size
    have c1 : W1.cell? ⟨b6, 1, none⟩ = some (.int .u32 ((k.r d).least : Int)) := hJ.d.cell 1
    have ha' : (((k.r d).least : Int) < (i.imm : Int)) := by omega
    have HA : Hid (((k.r d).least < i.imm)) := ha
    clear ha
    have HBB : Hid (¬ (i.imm ≤ (k.r d).great)) := hb
    clear hb
    have HIM : Hid (i.imm < 4294967296) := him
    clear him
    go_upto_region 3 with fail
    clear c1 ha'
    refine wp_region_inv (Φ := fun l vs X => Vals (fun q => match q with | 0 => some (.agg (stA i c k)) | 1 => some ((k.r d).v) | 2 => some (.int .u32 (i.imm : Int)) | 3 => some (.int .u32 ((i.imm - 1 : Nat) : Int)) | 4 => some ((atMostR (k.r d) (i.imm - 1)).v) | 5 => some (.agg (k.set d (atMostR (k.r d) (i.imm - 1))).a) | _ => none) l vs ∧ Pre1 6 (Below W1.heap.size W1) (JW w i c k (noK) (k.set d (atMostR (k.r d) (i.imm - 1))) b6 b6 (k.r d) (k.r d)) l X) (PQ := fun _ _ => False)
      (by kernel_rfl) (by kernel_rfl) (by kernel_rfl) (by kernel_rfl) ⟨Vals.none _ _, Pre1.start ((Below.refl _ _).drew)⟩ ?hop ?hend (fun _ _ _ _ h => h.elim)
    case hop =>
      refine ⟨?_, ?_, ?_, ?_, ?_, ?_, ?_, trivial⟩
      · intro l vs X A hA ⟨hV, hS⟩ hl hd hcl
        have hk := nY 6 hcl hl
        have hX := hS.1 hk
        have hB := hX
        have a1 := eO hA 1 rfl
        refine show_value (v := .agg (stA i c k)) (X' := X) (run_ld 82 _ rfl _ a1 (ld_row (l := stCells i c k) (has_whole (hJ.grow hB).st) (by kernel_rfl))) ⟨hV.upd (fun _ h => Option.some.inj h), Pre1.keep hk (by decide) (hX)⟩
      · intro l vs X A hA ⟨hV, hS⟩ hl hd hcl
        have hk := nY 6 hcl hl
        have hX := hS.1 hk
        have hB := hX
        have a4 := eO hA 4 rfl
        refine show_value (v := (k.r d).v) (X' := X) (run_ld 40 _ rfl _ a4 (ld_row (l := (k.r d).cells) (has_whole (hJ.grow hB).d) (by kernel_rfl))) ⟨hV.upd (fun _ h => Option.some.inj h), Pre1.keep hk (by decide) (hX)⟩
      · intro l vs X A hA ⟨hV, hS⟩ hl hd hcl
        have hk := nY 6 hcl hl
        have hX := hS.1 hk
        have hB := hX
        have a5 := eO hA 5 rfl
        refine show_value (v := .int .u32 (i.imm : Int)) (X' := X) ?_ ⟨hV.upd (fun _ h => Option.some.inj h), Pre1.keep hk (by decide) (hX)⟩
        generalize A.eval = ρ at *
        clear hA hl hd hcl hV hS
        go_simp
      · intro l vs X A hA ⟨hV, hS⟩ hl hd hcl
        have hk := nY 6 hcl hl
        have hX := hS.1 hk
        have hB := hX
        have a17 := eN hA 17 2 hd hV rfl
        have aC0 : A.eval (.const (.int .u32 1)) = (.int .u32 1) := rfl
        have q1 : IntKind.u32.wrap ((i.imm : Int) - 1) = ((i.imm - 1 : Nat) : Int) := by have := HA.out; have := HIM.out; rw [IntKind.wrap_u32]; omega
        refine show_value (v := .int .u32 ((i.imm - 1 : Nat) : Int)) (X' := X) ?_ ⟨hV.upd (fun _ h => Option.some.inj h), Pre1.keep hk (by decide) (hX)⟩
        generalize ((i.imm - 1 : Nat) : Int) = z at *
        generalize A.eval = ρ at *
        clear hA hl hd hcl hV hS
        go_simp
      · intro l vs X A hA ⟨hV, hS⟩ hl hd hcl
        have hk := nY 6 hcl hl
        have hX := hS.1 hk
        have hB := hX
        have a16 := eN hA 16 1 hd hV rfl
        have a18 := eN hA 18 3 hd hV rfl
        have aF0 : A.eval (.func 90) = .func (.func 90) #[] #[] := rfl
        refine show_call (f := 90) (args := #[(k.r d).v, .int .u32 ((i.imm - 1 : Nat) : Int)]) ?_ (atMost_any (k.r d) (i.imm - 1) hok X) ?_
        · generalize A.eval = ρ at *
          clear hA hl hd hcl hV hS
          go_simp
        · rintro e X' ⟨rfl, hB1⟩
          exact .inl ⟨_, rfl, hV.upd (fun _ h => Option.some.inj h), Pre1.keep hk (by decide) (hX.trans (hB1.mono hX.size))⟩
      · intro l vs X A hA ⟨hV, hS⟩ hl hd hcl
        have hk := nY 6 hcl hl
        have hX := hS.1 hk
        have hB := hX
        have a15 := eN hA 15 0 hd hV rfl
        have a19 := eN hA 19 4 hd hV rfl
        have aF0 : A.eval (.func 76) = .func (.func 76) #[] #[] := rfl
        refine show_call (f := 76) (args := #[.agg (stA i c k), (atMostR (k.r d) (i.imm - 1)).v]) ?_ (with_any i c k d (atMostR (k.r d) (i.imm - 1)) X hdst hdn) ?_
        · generalize A.eval = ρ at *
          clear hA hl hd hcl hV hS
          go_simp
        · rintro e X' ⟨rfl, hB1⟩
          exact .inl ⟨_, rfl, hV.upd (fun _ h => Option.some.inj h), Pre1.keep hk (by decide) (hX.trans (hB1.mono hX.size))⟩
      · intro l vs X A hA ⟨hV, hS⟩ hl hd hcl
        have hX := hS.1 hl
        have hB := hX
        have a3 := eO hA 3 rfl
        have a20 := eN hA 20 5 hd hV rfl
        have hg := hJ.grow hX
        refine show_skip (X' := X.setRow (w.heap.size + 2) (k.set d (atMostR (k.r d) (i.imm - 1))).a) (run_st_row 43 _ _ rfl (w.heap.size + 2) _ _ _ a3 a20 hg.j (by kernel_rfl) (by kernel_rfl) (Kn.a_one _)) ⟨hV.upd (fun _ h => by cases h), Pre1.last (hg.setJ _)⟩
    case hend =>
      intro l vs X hl ⟨hV, hS⟩
      have hX := hS.2 (hl 6 (by decide))
      have v0 := hV 0 _ (hl 0 (by decide)) rfl
      have v1 := hV 1 _ (hl 1 (by decide)) rfl
      have v2 := hV 2 _ (hl 2 (by decide)) rfl
      have v3 := hV 3 _ (hl 3 (by decide)) rfl
      have v4 := hV 4 _ (hl 4 (by decide)) rfl
      have v5 := hV 5 _ (hl 5 (by decide)) rfl
      clear hV hS hl
      simp only [canonL, if_true, v0, v1, v2, v3, v4, v5]
      clear v0 v1 v2 v3 v4 v5
      go_simp
      clear hJ hz1
      have hJ := hX
      clear hX
      obtain ⟨W2, hren⟩ : ∃ Z, Z = X := ⟨_, rfl⟩
      subst hren
      have hz2 := hJ.size
      go_upto_region 4 with fail
      have c2 : W2.cell? ⟨b6, 2, none⟩ = some (.int .u32 ((k.r d).great : Int)) := hJ.d.cell 2
      have hb' : ¬ ((i.imm : Int) ≤ ((k.r d).great : Int)) := by have := HBB.out; omega
      go_upto_region 6 with fail
      clear c2 hb'
      refine wp_region_inv (Φ := fun l vs X => Vals (fun q => match q with | 0 => some (.agg (noK).a) | 1 => some (.agg (k.set d (atMostR (k.r d) (i.imm - 1))).a) | _ => none) l vs ∧ Pre2 2 3 (Below W2.heap.size W2) (JW w i c k (noK) (k.set d (atMostR (k.r d) (i.imm - 1))) b6 b6 (k.r d) (k.r d)) (JW w i c k (noK) (k.set d (atMostR (k.r d) (i.imm - 1))) b6 b6 (k.r d) (k.r d)) l X) (PQ := fun _ _ => False)
        (by kernel_rfl) (by kernel_rfl) (by kernel_rfl) (by kernel_rfl) ⟨Vals.none _ _, Pre2.start ((Below.refl _ _).drew)⟩ ?hop ?hend (fun _ _ _ _ h => h.elim)
      case hop =>
        refine ⟨?_, ?_, ?_, ?_, trivial⟩
        · intro l vs X A hA ⟨hV, hS⟩ hl hd hcl
          have hj := nY 2 hcl hl
          have hk := nY 3 hcl hl
          have hX := hS.1 hj
          have hB := hX
          have a2 := eO hA 2 rfl
          refine show_value (v := .agg (noK).a) (X' := X) (run_ld 43 _ rfl _ a2 (ld_row (l := (noK).cells) (has_whole (hJ.grow hB).n) (by kernel_rfl))) ⟨hV.upd (fun _ h => Option.some.inj h), Pre2.keep hj hk (by decide) (by decide) (hX)⟩
        · intro l vs X A hA ⟨hV, hS⟩ hl hd hcl
          have hk := nY 3 hcl hl
          have a3 := eO hA 3 rfl
          cases hj : l 2 with
          | true =>
            have hX := hS.2.1 hj hk
            exact show_value (v := .agg (k.set d (atMostR (k.r d) (i.imm - 1))).a) (X' := X) (run_ld 43 _ rfl _ a3 (ld_row (l := (k.set d (atMostR (k.r d) (i.imm - 1))).cells) (has_whole hX.j) (by kernel_rfl))) ⟨hV.upd (fun _ h => Option.some.inj h), Pre2.keepMid hj hk (by decide) (by decide) hX⟩
          | false =>
            have hX := hS.1 hj
            have hB := hX
            exact show_value (v := .agg (k.set d (atMostR (k.r d) (i.imm - 1))).a) (X' := X) (run_ld 43 _ rfl _ a3 (ld_row (l := (k.set d (atMostR (k.r d) (i.imm - 1))).cells) (has_whole (hJ.grow hB).j) (by kernel_rfl))) ⟨hV.upd (fun _ h => Option.some.inj h), Pre2.keep hj hk (by decide) (by decide) hX⟩
        · intro l vs X A hA ⟨hV, hS⟩ hl hd hcl
          have hk := nY 3 hcl hl
          have hX := hS.1 hl
          have a2 := eO hA 2 rfl
          have a30 := eN hA 30 0 hd hV rfl
          have hg := hJ.grow hX
          refine show_skip (X' := X.setRow (w.heap.size + 1) (noK).a) (run_st_row 43 _ _ rfl (w.heap.size + 1) _ _ _ a2 a30 hg.n (by kernel_rfl) (by kernel_rfl) (Kn.a_one _)) ⟨hV.upd (fun _ h => by cases h), Pre2.mid hk (by decide) (hg.setN _)⟩
        · intro l vs X A hA ⟨hV, hS⟩ hl hd hcl
          have hX := hS.2.1 (hd 2 (by kernel_rfl)) hl
          have a3 := eO hA 3 rfl
          have a31 := eN hA 31 1 hd hV rfl
          refine show_skip (X' := X.setRow (w.heap.size + 2) (k.set d (atMostR (k.r d) (i.imm - 1))).a) (run_st_row 43 _ _ rfl (w.heap.size + 2) _ _ _ a3 a31 hX.j (by kernel_rfl) (by kernel_rfl) (Kn.a_one _)) ⟨hV.upd (fun _ h => by cases h), Pre2.last (hd 2 (by kernel_rfl)) (hX.setJ _)⟩
      case hend =>
        intro l vs X hl ⟨hV, hS⟩
        have hX := hS.2.2 (hl 3 (by decide))
        have v0 := hV 0 _ (hl 0 (by decide)) rfl
        have v1 := hV 1 _ (hl 1 (by decide)) rfl
        clear hV hS hl
        simp only [canonL, if_true, v0, v1]
        clear v0 v1
        go_simp
        go_wp2_with fail
        refine bodyPost_ret (results_rows2 rfl _ _ (w.heap.size + 1) (w.heap.size + 2) 43 _ _ _ rfl rfl hX.n hX.j Tryd.underlying43 rfl (by kernel_rfl) (by kernel_rfl)) rfl ?_
        exact ⟨rfl, hX.below⟩
set_option maxRecDepth 10000 in
set_option maxHeartbeats 2000000 in
theorem jlti_01 (i : Ins) (c : Int) (k : Kn) (d : Nat) (w : World) (hdst : i.dst = (d : Int)) (hdn : d < 10) (hk0 : k.r d ≠ noR) (hok : (k.r d).Ok) (him : i.imm < 4294967296) (ha : ¬ (k.r d).least < i.imm) (hb : i.imm ≤ (k.r d).great) :
    Calls Tryd.prog 62 #[.agg (stA i c k)] w fun e w' => e = .returned (two (k.set d (atLeastR (k.r d) i.imm)) (noK)) ∧ Below w.heap.size w w' := by
  obtain ⟨W0, hW0⟩ : ∃ W0, W0 = ((w.alloc (.cells (stA i c k) 82)).alloc (.cells noK.a 43)).alloc (.cells noK.a 43) := ⟨_, rfl⟩
  obtain ⟨hst, h3, h4, hB0, hz0⟩ := ways_world i c k w W0 hW0
  have HZ : Hid (W0.heap.size = w.heap.size + 3) := hz0
  clear hz0
  go_enter Tryd.func62, Tryd.ntmps62
  go_upto_region 1 with fail
  refine named2 (p := fun X => Code.wp _ _ _ _ X) ?_
  intro W9 hW9
  have hW : W0 = W9 := hW0.trans hW9.symm
  subst hW
  clear hW9 hW0
  refine wp_region_inv (Φ := fun l vs X => Vals (fun q => match q with | 0 => some (.agg (stA i c k)) | 1 => some ((k.r d).v) | 2 => some (.pointer (some ⟨w.heap.size, 0, none⟩)) | 3 => some (.pointer (some ⟨w.heap.size, 4, none⟩)) | 4 => some (.int .u32 (i.imm : Int)) | 7 => some (.int .u32 (i.imm : Int)) | _ => none) l vs ∧ Ph1 6 (Two W0.heap.size 40 noR.a W0 5 99) (fun vs X => Held W0.heap.size 40 (k.r d).a W0 (vs 5) X) l vs X) (PQ := fun _ _ => False)
    (by kernel_rfl) (by kernel_rfl) (by kernel_rfl) (by kernel_rfl) ⟨Vals.none _ _, Ph1.start (Two.start ((Below.refl _ _).drew) (Nat.le_refl _))⟩ ?hop ?hend (fun _ _ _ _ h => h.elim)
  case hop =>
    refine ⟨?_, ?_, ?_, ?_, ?_, ?_, ?_, ?_, trivial⟩
    · intro l vs X A hA ⟨hV, hS⟩ hl hd hcl
      have hk := nY 6 hcl hl
      have hX := hS.1 hk
      have hB := hX.below
      have a1 := eO hA 1 rfl
      refine show_value (v := .agg (stA i c k)) (X' := X) (run_ld 82 _ rfl _ a1 (ld_row (l := stCells i c k) (has_whole (hst.below hB hst.lt)) (by kernel_rfl))) ⟨hV.upd (fun _ h => Option.some.inj h), Ph1.keep hk (by decide) (hX.grow (Below.refl _ _) (by decide) (by decide) _)⟩
    · intro l vs X A hA ⟨hV, hS⟩ hl hd hcl
      have hk := nY 6 hcl hl
      have hX := hS.1 hk
      have hB := hX.below
      have a6 := eN hA 6 0 hd hV rfl
      have aF0 : A.eval (.func 80) = .func (.func 80) #[] #[] := rfl
      refine show_call (f := 80) (args := #[.agg (stA i c k)]) ?_ (dst_ok i c k d X hdst hdn hk0) ?_
      · generalize A.eval = ρ at *
        clear hA hl hd hcl hV hS
        go_simp
      · rintro e X' ⟨rfl, hB1⟩
        exact .inl ⟨_, rfl, hV.upd (fun _ h => Option.some.inj h), Ph1.keep hk (by decide) (hX.grow hB1 (by decide) (by decide) _)⟩
    · intro l vs X A hA ⟨hV, hS⟩ hl hd hcl
      have a1 := eO hA 1 rfl
      have hB : Below W0.heap.size W0 X := by
        cases hk : l 6 with
        | true => exact (hS.2 hk).choose_spec.2.2.2
        | false => exact (hS.1 hk).below
      have hP : ∀ v, Ph1 6 (Two W0.heap.size 40 noR.a W0 5 99) (fun vs X => Held W0.heap.size 40 (k.r d).a W0 (vs 5) X) (upd l 2 true) (upd vs 2 v) X := fun v => by
        cases hk : l 6 with
        | true => exact Ph1.keepT hk (by decide) (hS.2 hk)
        | false => exact Ph1.keep hk (by decide) ((hS.1 hk).grow (Below.refl _ _) (by decide) (by decide) _)
      refine show_value (v := .pointer (some ⟨w.heap.size, 0, none⟩)) (X' := X) ?_ ⟨hV.upd (fun _ h => Option.some.inj h), hP _⟩
      clear hP
      generalize A.eval = ρ at *
      clear hA hl hd hcl hV hS
      go_simp
    · intro l vs X A hA ⟨hV, hS⟩ hl hd hcl
      have a8 := eN hA 8 2 hd hV rfl
      have hB : Below W0.heap.size W0 X := by
        cases hk : l 6 with
        | true => exact (hS.2 hk).choose_spec.2.2.2
        | false => exact (hS.1 hk).below
      have hP : ∀ v, Ph1 6 (Two W0.heap.size 40 noR.a W0 5 99) (fun vs X => Held W0.heap.size 40 (k.r d).a W0 (vs 5) X) (upd l 3 true) (upd vs 3 v) X := fun v => by
        cases hk : l 6 with
        | true => exact Ph1.keepT hk (by decide) (hS.2 hk)
        | false => exact Ph1.keep hk (by decide) ((hS.1 hk).grow (Below.refl _ _) (by decide) (by decide) _)
      refine show_value (v := .pointer (some ⟨w.heap.size, 4, none⟩)) (X' := X) ?_ ⟨hV.upd (fun _ h => Option.some.inj h), hP _⟩
      clear hP
      generalize A.eval = ρ at *
      clear hA hl hd hcl hV hS
      go_simp
    · intro l vs X A hA ⟨hV, hS⟩ hl hd hcl
      have a9 := eN hA 9 3 hd hV rfl
      have hB : Below W0.heap.size W0 X := by
        cases hk : l 6 with
        | true => exact (hS.2 hk).choose_spec.2.2.2
        | false => exact (hS.1 hk).below
      have hP : ∀ v, Ph1 6 (Two W0.heap.size 40 noR.a W0 5 99) (fun vs X => Held W0.heap.size 40 (k.r d).a W0 (vs 5) X) (upd l 4 true) (upd vs 4 v) X := fun v => by
        cases hk : l 6 with
        | true => exact Ph1.keepT hk (by decide) (hS.2 hk)
        | false => exact Ph1.keep hk (by decide) ((hS.1 hk).grow (Below.refl _ _) (by decide) (by decide) _)
      have cc : X.cell? ⟨w.heap.size, 4, none⟩ = some (.int .u32 (i.imm : Int)) := (hst.below hB hst.lt).cell 4
      refine show_value (v := .int .u32 (i.imm : Int)) (X' := X) ?_ ⟨hV.upd (fun _ h => Option.some.inj h), hP _⟩
      clear hP
      generalize A.eval = ρ at *
      clear hA hl hd hcl hV hS
      go_simp
    · intro l vs X A hA ⟨hV, hS⟩ hl hd hcl
      have hk := nY 6 hcl hl
      have hX := hS.1 hk
      have hB := hX.below
      refine show_value (v := .pointer (some ⟨X.heap.size, 0, none⟩)) (X' := X.alloc (.cells noR.a 40)) ?_ ⟨hV.upd (fun _ h => by cases h), Ph1.keep hk (by decide) (hX.mkFst (by decide))⟩
      generalize A.eval = ρ at *
      clear hA hl hd hcl hV hS
      rfl
    · intro l vs X A hA ⟨hV, hS⟩ hl hd hcl
      have hX := hS.1 hl
      have hB := hX.below
      have a4 := eval_new hA 4 5 (by kernel_rfl) (by kernel_rfl) (by kernel_rfl) (hd 5 (by kernel_rfl)) (rfl : vs 5 = vs 5)
      have a7 := eN hA 7 1 hd hV rfl
      obtain ⟨b, hb, hH, hT⟩ := hX.held (hd 5 (by kernel_rfl)) ((k.r d).a)
      rw [hb] at a4
      exact show_skip (run_st_row 40 _ _ rfl b _ _ _ a4 a7 hH (by kernel_rfl) (by kernel_rfl) (Rg.a_one _)) ⟨hV.upd (fun _ h => by cases h), Ph1.last hT⟩
    · intro l vs X A hA ⟨hV, hS⟩ hl hd hcl
      have a10 := eN hA 10 4 hd hV rfl
      have hB : Below W0.heap.size W0 X := by
        cases hk : l 6 with
        | true => exact (hS.2 hk).choose_spec.2.2.2
        | false => exact (hS.1 hk).below
      have hP : ∀ v, Ph1 6 (Two W0.heap.size 40 noR.a W0 5 99) (fun vs X => Held W0.heap.size 40 (k.r d).a W0 (vs 5) X) (upd l 7 true) (upd vs 7 v) X := fun v => by
        cases hk : l 6 with
        | true => exact Ph1.keepT hk (by decide) (hS.2 hk)
        | false => exact Ph1.keep hk (by decide) ((hS.1 hk).grow (Below.refl _ _) (by decide) (by decide) _)
      refine show_value (v := .int .u32 (i.imm : Int)) (X' := X) ?_ ⟨hV.upd (fun _ h => Option.some.inj h), hP _⟩
      clear hP
      generalize A.eval = ρ at *
      clear hA hl hd hcl hV hS
      go_simp
  case hend =>
    intro l vs X hl ⟨hV, hS⟩
    have hX := hS.2 (hl 6 (by decide))
    have v0 := hV 0 _ (hl 0 (by decide)) rfl
    have v1 := hV 1 _ (hl 1 (by decide)) rfl
    have v2 := hV 2 _ (hl 2 (by decide)) rfl
    have v3 := hV 3 _ (hl 3 (by decide)) rfl
    have v4 := hV 4 _ (hl 4 (by decide)) rfl
    have v7 := hV 7 _ (hl 7 (by decide)) rfl
    clear hV hS hl
    obtain ⟨b6, u6, g6, hb6, hB9⟩ := hX
    simp only [canonL, if_true, v0, v1, v2, v3, v4, v7, u6]
    clear v0 v1 v2 v3 v4 v7 u6
    go_simp
    have hJ : JW w i c k (noK) (noK) b6 b6 (k.r d) (k.r d) X := ⟨hst.below hB9 hst.lt, h3.below hB9 h3.lt, h4.below hB9 h4.lt, hb6, hb6, hB0.trans (hB9.mono hB0.size), by have := HZ.out; omega, by have := HZ.out; omega⟩
    obtain ⟨W1, hren⟩ : ∃ Z, Z = X := ⟨_, rfl⟩
    subst hren
    clear hst h3 h4 hb6 hB9 g6 hB0 HZ
    have hz1 := hJ.size
    have c1 : W1.cell? ⟨b6, 1, none⟩ = some (.int .u32 ((k.r d).least : Int)) := hJ.d.cell 1
    have ha' : ¬ (((k.r d).least : Int) < (i.imm : Int)) := by omega
    have HA : Hid (¬ ((k.r d).least < i.imm)) := ha
    clear ha
    have HBB : Hid ((i.imm ≤ (k.r d).great)) := hb
    clear hb
    have HIM : Hid (i.imm < 4294967296) := him
    clear him
    go_upto_region 4 with fail
    clear c1 ha'
    have c2 : W1.cell? ⟨b6, 2, none⟩ = some (.int .u32 ((k.r d).great : Int)) := hJ.d.cell 2
    have hb' : ((i.imm : Int) ≤ ((k.r d).great : Int)) := by have := HBB.out; omega
    go_upto_region 5 with fail
    clear c2 hb'
    refine wp_region_inv (Φ := fun l vs X => Vals (fun q => match q with | 0 => some (.agg (stA i c k)) | 1 => some ((k.r d).v) | 2 => some (.int .u32 (i.imm : Int)) | 3 => some ((atLeastR (k.r d) i.imm).v) | 4 => some (.agg (k.set d (atLeastR (k.r d) i.imm)).a) | _ => none) l vs ∧ Pre1 5 (Below W1.heap.size W1) (JW w i c k (k.set d (atLeastR (k.r d) i.imm)) (noK) b6 b6 (k.r d) (k.r d)) l X) (PQ := fun _ _ => False)
      (by kernel_rfl) (by kernel_rfl) (by kernel_rfl) (by kernel_rfl) ⟨Vals.none _ _, Pre1.start ((Below.refl _ _).drew)⟩ ?hop ?hend (fun _ _ _ _ h => h.elim)
    case hop =>
      refine ⟨?_, ?_, ?_, ?_, ?_, ?_, trivial⟩
      · intro l vs X A hA ⟨hV, hS⟩ hl hd hcl
        have hk := nY 5 hcl hl
        have hX := hS.1 hk
        have hB := hX
        have a1 := eO hA 1 rfl
        refine show_value (v := .agg (stA i c k)) (X' := X) (run_ld 82 _ rfl _ a1 (ld_row (l := stCells i c k) (has_whole (hJ.grow hB).st) (by kernel_rfl))) ⟨hV.upd (fun _ h => Option.some.inj h), Pre1.keep hk (by decide) (hX)⟩
      · intro l vs X A hA ⟨hV, hS⟩ hl hd hcl
        have hk := nY 5 hcl hl
        have hX := hS.1 hk
        have hB := hX
        have a4 := eO hA 4 rfl
        refine show_value (v := (k.r d).v) (X' := X) (run_ld 40 _ rfl _ a4 (ld_row (l := (k.r d).cells) (has_whole (hJ.grow hB).d) (by kernel_rfl))) ⟨hV.upd (fun _ h => Option.some.inj h), Pre1.keep hk (by decide) (hX)⟩
      · intro l vs X A hA ⟨hV, hS⟩ hl hd hcl
        have hk := nY 5 hcl hl
        have hX := hS.1 hk
        have hB := hX
        have a5 := eO hA 5 rfl
        refine show_value (v := .int .u32 (i.imm : Int)) (X' := X) ?_ ⟨hV.upd (fun _ h => Option.some.inj h), Pre1.keep hk (by decide) (hX)⟩
        generalize A.eval = ρ at *
        clear hA hl hd hcl hV hS
        go_simp
      · intro l vs X A hA ⟨hV, hS⟩ hl hd hcl
        have hk := nY 5 hcl hl
        have hX := hS.1 hk
        have hB := hX
        have a26 := eN hA 26 1 hd hV rfl
        have a27 := eN hA 27 2 hd hV rfl
        have aF0 : A.eval (.func 91) = .func (.func 91) #[] #[] := rfl
        refine show_call (f := 91) (args := #[(k.r d).v, .int .u32 (i.imm : Int)]) ?_ (atLeast_any (k.r d) i.imm hok X) ?_
        · generalize A.eval = ρ at *
          clear hA hl hd hcl hV hS
          go_simp
        · rintro e X' ⟨rfl, hB1⟩
          exact .inl ⟨_, rfl, hV.upd (fun _ h => Option.some.inj h), Pre1.keep hk (by decide) (hX.trans (hB1.mono hX.size))⟩
      · intro l vs X A hA ⟨hV, hS⟩ hl hd hcl
        have hk := nY 5 hcl hl
        have hX := hS.1 hk
        have hB := hX
        have a25 := eN hA 25 0 hd hV rfl
        have a28 := eN hA 28 3 hd hV rfl
        have aF0 : A.eval (.func 76) = .func (.func 76) #[] #[] := rfl
        refine show_call (f := 76) (args := #[.agg (stA i c k), (atLeastR (k.r d) i.imm).v]) ?_ (with_any i c k d (atLeastR (k.r d) i.imm) X hdst hdn) ?_
        · generalize A.eval = ρ at *
          clear hA hl hd hcl hV hS
          go_simp
        · rintro e X' ⟨rfl, hB1⟩
          exact .inl ⟨_, rfl, hV.upd (fun _ h => Option.some.inj h), Pre1.keep hk (by decide) (hX.trans (hB1.mono hX.size))⟩
      · intro l vs X A hA ⟨hV, hS⟩ hl hd hcl
        have hX := hS.1 hl
        have hB := hX
        have a2 := eO hA 2 rfl
        have a29 := eN hA 29 4 hd hV rfl
        have hg := hJ.grow hX
        refine show_skip (X' := X.setRow (w.heap.size + 1) (k.set d (atLeastR (k.r d) i.imm)).a) (run_st_row 43 _ _ rfl (w.heap.size + 1) _ _ _ a2 a29 hg.n (by kernel_rfl) (by kernel_rfl) (Kn.a_one _)) ⟨hV.upd (fun _ h => by cases h), Pre1.last (hg.setN _)⟩
    case hend =>
      intro l vs X hl ⟨hV, hS⟩
      have hX := hS.2 (hl 5 (by decide))
      have v0 := hV 0 _ (hl 0 (by decide)) rfl
      have v1 := hV 1 _ (hl 1 (by decide)) rfl
      have v2 := hV 2 _ (hl 2 (by decide)) rfl
      have v3 := hV 3 _ (hl 3 (by decide)) rfl
      have v4 := hV 4 _ (hl 4 (by decide)) rfl
      clear hV hS hl
      simp only [canonL, if_true, v0, v1, v2, v3, v4]
      clear v0 v1 v2 v3 v4
      go_simp
      clear hJ
      have hJ := hX
      clear hX
      obtain ⟨W5, hren⟩ : ∃ Z, Z = X := ⟨_, rfl⟩
      subst hren
      have hz5 := hJ.size
      go_upto_region 6 with fail
      refine wp_region_inv (Φ := fun l vs X => Vals (fun q => match q with | 0 => some (.agg (k.set d (atLeastR (k.r d) i.imm)).a) | 1 => some (.agg (noK).a) | _ => none) l vs ∧ Pre2 2 3 (Below W5.heap.size W5) (JW w i c k (k.set d (atLeastR (k.r d) i.imm)) (noK) b6 b6 (k.r d) (k.r d)) (JW w i c k (k.set d (atLeastR (k.r d) i.imm)) (noK) b6 b6 (k.r d) (k.r d)) l X) (PQ := fun _ _ => False)
        (by kernel_rfl) (by kernel_rfl) (by kernel_rfl) (by kernel_rfl) ⟨Vals.none _ _, Pre2.start ((Below.refl _ _).drew)⟩ ?hop ?hend (fun _ _ _ _ h => h.elim)
      case hop =>
        refine ⟨?_, ?_, ?_, ?_, trivial⟩
        · intro l vs X A hA ⟨hV, hS⟩ hl hd hcl
          have hj := nY 2 hcl hl
          have hk := nY 3 hcl hl
          have hX := hS.1 hj
          have hB := hX
          have a2 := eO hA 2 rfl
          refine show_value (v := .agg (k.set d (atLeastR (k.r d) i.imm)).a) (X' := X) (run_ld 43 _ rfl _ a2 (ld_row (l := (k.set d (atLeastR (k.r d) i.imm)).cells) (has_whole (hJ.grow hB).n) (by kernel_rfl))) ⟨hV.upd (fun _ h => Option.some.inj h), Pre2.keep hj hk (by decide) (by decide) (hX)⟩
        · intro l vs X A hA ⟨hV, hS⟩ hl hd hcl
          have hk := nY 3 hcl hl
          have a3 := eO hA 3 rfl
          cases hj : l 2 with
          | true =>
            have hX := hS.2.1 hj hk
            exact show_value (v := .agg (noK).a) (X' := X) (run_ld 43 _ rfl _ a3 (ld_row (l := (noK).cells) (has_whole hX.j) (by kernel_rfl))) ⟨hV.upd (fun _ h => Option.some.inj h), Pre2.keepMid hj hk (by decide) (by decide) hX⟩
          | false =>
            have hX := hS.1 hj
            have hB := hX
            exact show_value (v := .agg (noK).a) (X' := X) (run_ld 43 _ rfl _ a3 (ld_row (l := (noK).cells) (has_whole (hJ.grow hB).j) (by kernel_rfl))) ⟨hV.upd (fun _ h => Option.some.inj h), Pre2.keep hj hk (by decide) (by decide) hX⟩
        · intro l vs X A hA ⟨hV, hS⟩ hl hd hcl
          have hk := nY 3 hcl hl
          have hX := hS.1 hl
          have a2 := eO hA 2 rfl
          have a30 := eN hA 30 0 hd hV rfl
          have hg := hJ.grow hX
          refine show_skip (X' := X.setRow (w.heap.size + 1) (k.set d (atLeastR (k.r d) i.imm)).a) (run_st_row 43 _ _ rfl (w.heap.size + 1) _ _ _ a2 a30 hg.n (by kernel_rfl) (by kernel_rfl) (Kn.a_one _)) ⟨hV.upd (fun _ h => by cases h), Pre2.mid hk (by decide) (hg.setN _)⟩
        · intro l vs X A hA ⟨hV, hS⟩ hl hd hcl
          have hX := hS.2.1 (hd 2 (by kernel_rfl)) hl
          have a3 := eO hA 3 rfl
          have a31 := eN hA 31 1 hd hV rfl
          refine show_skip (X' := X.setRow (w.heap.size + 2) (noK).a) (run_st_row 43 _ _ rfl (w.heap.size + 2) _ _ _ a3 a31 hX.j (by kernel_rfl) (by kernel_rfl) (Kn.a_one _)) ⟨hV.upd (fun _ h => by cases h), Pre2.last (hd 2 (by kernel_rfl)) (hX.setJ _)⟩
      case hend =>
        intro l vs X hl ⟨hV, hS⟩
        have hX := hS.2.2 (hl 3 (by decide))
        have v0 := hV 0 _ (hl 0 (by decide)) rfl
        have v1 := hV 1 _ (hl 1 (by decide)) rfl
        clear hV hS hl
        simp only [canonL, if_true, v0, v1]
        clear v0 v1
        go_simp
        go_wp2_with fail
        refine bodyPost_ret (results_rows2 rfl _ _ (w.heap.size + 1) (w.heap.size + 2) 43 _ _ _ rfl rfl hX.n hX.j Tryd.underlying43 rfl (by kernel_rfl) (by kernel_rfl)) rfl ?_
        exact ⟨rfl, hX.below⟩
end Go.Proofs.YtodkehpldlmgaaaDoor
