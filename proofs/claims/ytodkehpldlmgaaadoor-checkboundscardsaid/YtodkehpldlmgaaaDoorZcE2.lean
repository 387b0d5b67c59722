/- Bytes of memory at their bounds. -/
import Derived.Test.YtodkehpldlmgaaaDoorZcE1
import Derived.Test.YtodkehpldlmgaaaDoorZq3
import Derived.Test.YtodkehpldlmgaaaDoorZq2
import Derived.Deep.Cut
namespace Go.Proofs.YtodkehpldlmgaaaDoor
open Go.RowKit

/-- What is known there, the instructions, the sizes. -/
def bndK (rl rg : Nat) : Kn := ((⟨true, fun _ => noR⟩ : Kn).set 2 ⟨true, rl, rg⟩).set 5 ⟨true, 0, 0⟩
def bndI (off : Int) (j : Nat) : Ins := if j = 0 then ⟨16, 0, 2, off, 0⟩ else if j = 1 then ⟨17, 0, 2, off, 0⟩ else ⟨18, 2, 5, off, 0⟩
def bndZ (ctx : Int) (j : Nat) : Int := if j = 0 then ctx else 64
theorem bndK_right {rl rg : Nat} (h1 : rl ≤ rg) (h2 : rg < 4294967296) : KnR (bndK rl rg) := fun n hn => by
  show Good ((bndK rl rg).r n)
  unfold bndK Kn.set
  simp only
  split
  · exact good_from (Nat.le_refl _) (by decide)
  · split
    · exact good_from h1 h2
    · exact good_no
theorem bndI_may {off : Int} (h2 : ¬ off < -32768) (h3 : ¬ 32767 < off) (j : Nat) : MayI (bndI off j) := by
  unfold bndI
  split
  · exact ⟨by show MayP 16 0 2 off 0; unfold MayP; omega, by show 0 < 4294967296; decide⟩
  · split
    · exact ⟨by show MayP 17 0 2 off 0; unfold MayP; omega, by show 0 < 4294967296; decide⟩
    · exact ⟨by show MayP 18 2 5 off 0; unfold MayP; omega, by show 0 < 4294967296; decide⟩
theorem outI_16 (i : Ins) (c : Int) (k : Kn) (h : i.op.toNat = 16) : outI i c k = bindE (needE k i.src.toNat) fun r => if fits r i.off c then .ok (k.set i.dst.toNat (fromR 0 255), noK) else .error .beyond := by
  unfold outI
  simp only [h]
theorem outI_17 (i : Ins) (c : Int) (k : Kn) (h : i.op.toNat = 17) : outI i c k = bindE (needE k i.src.toNat) fun r => if fits r i.off 64 then .ok (k.set i.dst.toNat (fromR 0 255), noK) else .error .beyond := by
  unfold outI
  simp only [h]
theorem outI_18 (i : Ins) (c : Int) (k : Kn) (h : i.op.toNat = 18) : outI i c k = bindE (needE k i.dst.toNat) fun r => bindE (needE k i.src.toNat) fun _ => if fits r i.off 64 then .ok (k, noK) else .error .beyond := by
  unfold outI
  simp only [h]
theorem bnd_beh {rl rg : Nat} {off ctx : Int} (h1 : rl ≤ rg) (h2 : rg < 4294967296) (h3 : ¬ off < -32768) (h4 : ¬ 32767 < off) (h5 : 0 ≤ ctx) (h6 : ctx ≤ 256) (j : Nat) :
    (behV (bndI off j) ctx (bndK rl rg)).2.2 = if fits ⟨true, rl, rg⟩ off (bndZ ctx j) then 0 else 163 := by
  have hm := bndI_may h3 h4 j
  have hc := chk_one hm h5 h6
  have hk := right_knB (bndK_right h1 h2)
  have hne : (⟨true, rl, rg⟩ : Rg) ≠ noR := fun e => by cases e
  have e2 : needE (bndK rl rg) 2 = .ok ⟨true, rl, rg⟩ := needE_ok hne
  have e5 : needE (bndK rl rg) 5 = .ok ⟨true, 0, 0⟩ := needE_ok (k := bndK rl rg) (n := 5) (fun e => by cases e)
  have key : ∀ z, z = bndZ ctx j → ∃ n m : Kn, outI (bndI off j) ctx (bndK rl rg) = if fits ⟨true, rl, rg⟩ off z then .ok (n, m) else .error .beyond := fun z hz => by
    by_cases j0 : j = 0
    · subst j0
      refine ⟨(bndK rl rg).set 0 (fromR 0 255), noK, ?_⟩
      rw [hz, outI_16 _ _ _ rfl]
      show bindE (needE (bndK rl rg) 2) _ = _
      rw [e2, bindE_ok]
      rfl
    · by_cases j1 : j = 1
      · subst j1
        refine ⟨(bndK rl rg).set 0 (fromR 0 255), noK, ?_⟩
        rw [hz, outI_17 _ _ _ rfl]
        show bindE (needE (bndK rl rg) 2) _ = _
        rw [e2, bindE_ok]
        rfl
      · have ei : bndI off j = ⟨18, 2, 5, off, 0⟩ := by unfold bndI; rw [if_neg j0, if_neg j1]
        have ez : bndZ ctx j = 64 := by unfold bndZ; rw [if_neg j0]
        refine ⟨bndK rl rg, noK, ?_⟩
        rw [hz, ei, ez, outI_18 _ _ _ rfl]
        show bindE (needE (bndK rl rg) 2) _ = _
        rw [e2, bindE_ok]
        show bindE (needE (bndK rl rg) 5) _ = _
        rw [e5, bindE_ok]
  obtain ⟨n, m, key⟩ := key _ rfl
  by_cases hf : fits ⟨true, rl, rg⟩ off (bndZ ctx j) = true
  · rw [if_pos hf] at key ⊢
    rw [behV_ok hc hk rfl key]
  · rw [if_neg hf] at key ⊢
    rw [behV_no hc hk rfl key]
    rfl
theorem bndI_imm (off : Int) (j : Nat) : (bndI off j).imm < 4294967296 := by
  unfold bndI
  split
  · show 0 < 4294967296; decide
  · split <;> (show 0 < 4294967296; decide)
theorem bnd_row (off : Int) (X : World) (b : Nat) (h : Has X b #[.int .i64 16, .int .i64 0, .int .i64 2, .int .i64 off, .int .u32 0, .int .i64 17, .int .i64 0, .int .i64 2, .int .i64 off, .int .u32 0, .int .i64 18, .int .i64 2, .int .i64 5, .int .i64 off, .int .u32 0] 38) (j : Nat) (hj : j < 3) : X.rangeAt b (j * 5) (bndI off j).cells := by
  obtain rfl | rfl | rfl : j = 0 ∨ j = 1 ∨ j = 2 := by omega
  all_goals
    refine has_range h _ _ fun q hq => ?_
    have hq5 : q < 5 := hq
    obtain rfl | rfl | rfl | rfl | rfl : q = 0 ∨ q = 1 ∨ q = 2 ∨ q = 3 ∨ q = 4 := by omega
    all_goals rfl
theorem bnd_size (ctx : Int) (X : World) (b : Nat) (h : Has X b #[.int .i64 ctx, .int .i64 64, .int .i64 64] 2) (j : Nat) (hj : j < 3) : X.cell? ⟨b, j, none⟩ = some (.int .i64 (bndZ ctx j)) := by
  obtain rfl | rfl | rfl : j = 0 ∨ j = 1 ∨ j = 2 := by omega
  all_goals exact h.cell _
set_option maxRecDepth 10000 in
set_option maxHeartbeats 4000000 in
theorem bounds_main (rl rg : Nat) (off ctx : Int) (w : World) (hG : Glob w) (hr : rg < 4294967296) (h1 : ¬ (rg : Int) < (rl : Int)) (h2 : ¬ off < -32768) (h3 : ¬ 32767 < off) (h4 : ¬ ctx < 0) (h5 : ¬ 256 < ctx) :
    Calls Tryd.prog 7 #[.agg #[.bool true, .int .u32 (rl : Int), .int .u32 (rg : Int)], .int .i64 off, .int .i64 ctx] w fun e w' => e = .returned (.bool true) ∧ Below w.heap.size w w' := by
  have HE : Hid (∀ j, (behV (bndI off j) ctx (bndK rl rg)).2.2 = if fits ⟨true, rl, rg⟩ off (bndZ ctx j) then 0 else 163) := fun j => bnd_beh (by omega) hr h2 h3 (by omega) (by omega) j
  have HOK : Hid (KOk (bndK rl rg)) := (bndK_right (by omega) hr).ok
  have hz0 : Has ((w.alloc (.cells #[.bool true, .int .u32 (rl : Int), .int .u32 (rg : Int)] 40)).alloc (.cells #[.bool false, .bool false, .int .u32 0, .int .u32 0, .bool false, .int .u32 0, .int .u32 0, .bool false, .int .u32 0, .int .u32 0, .bool false, .int .u32 0, .int .u32 0, .bool false, .int .u32 0, .int .u32 0, .bool false, .int .u32 0, .int .u32 0, .bool false, .int .u32 0, .int .u32 0, .bool false, .int .u32 0, .int .u32 0, .bool false, .int .u32 0, .int .u32 0, .bool false, .int .u32 0, .int .u32 0] 43)) (w.heap.size + 1) #[.bool false, .bool false, .int .u32 0, .int .u32 0, .bool false, .int .u32 0, .int .u32 0, .bool false, .int .u32 0, .int .u32 0, .bool false, .int .u32 0, .int .u32 0, .bool false, .int .u32 0, .int .u32 0, .bool false, .int .u32 0, .int .u32 0, .bool false, .int .u32 0, .int .u32 0, .bool false, .int .u32 0, .int .u32 0, .bool false, .int .u32 0, .int .u32 0, .bool false, .int .u32 0, .int .u32 0] 43 := has_new _ _ _ _ (by simp)
  obtain ⟨W0, hW0⟩ : ∃ W0, W0 = ((w.alloc (.cells #[.bool true, .int .u32 (rl : Int), .int .u32 (rg : Int)] 40)).alloc (.cells #[.bool false, .bool false, .int .u32 0, .int .u32 0, .bool false, .int .u32 0, .int .u32 0, .bool false, .int .u32 0, .int .u32 0, .bool false, .int .u32 0, .int .u32 0, .bool false, .int .u32 0, .int .u32 0, .bool false, .int .u32 0, .int .u32 0, .bool false, .int .u32 0, .int .u32 0, .bool false, .int .u32 0, .int .u32 0, .bool false, .int .u32 0, .int .u32 0, .bool false, .int .u32 0, .int .u32 0] 43)).setRow (w.heap.size + 1) #[.bool true, .bool false, .int .u32 0, .int .u32 0, .bool false, .int .u32 0, .int .u32 0, .bool false, .int .u32 0, .int .u32 0, .bool false, .int .u32 0, .int .u32 0, .bool false, .int .u32 0, .int .u32 0, .bool false, .int .u32 0, .int .u32 0, .bool false, .int .u32 0, .int .u32 0, .bool false, .int .u32 0, .int .u32 0, .bool false, .int .u32 0, .int .u32 0, .bool false, .int .u32 0, .int .u32 0] := ⟨_, rfl⟩
  have hbox : Has W0 w.heap.size #[.bool true, .int .u32 (rl : Int), .int .u32 (rg : Int)] 40 := by rw [hW0]; exact (has_old (has_new _ _ _ _ rfl)).ex (setRow_ex _ _ _) (by omega)
  have hk0 : Has W0 (w.heap.size + 1) comeK.a 43 := by rw [hW0]; exact setRow_has hz0 _
  have hB0 : Below w.heap.size w W0 := by rw [hW0]; exact setRow_below (((Below.refl _ _).alloc (Nat.le_refl _) _).alloc (by simp) _) (by omega) _
  go_enter Tryd.func7, Tryd.ntmps7
  go_upto_region 4 with (refine wpList_store_row rfl 43 _ _ rfl (w.heap.size + 1) #[.bool true, .bool false, .int .u32 0, .int .u32 0, .bool false, .int .u32 0, .int .u32 0, .bool false, .int .u32 0, .int .u32 0, .bool false, .int .u32 0, .int .u32 0, .bool false, .int .u32 0, .int .u32 0, .bool false, .int .u32 0, .int .u32 0, .bool false, .int .u32 0, .int .u32 0, .bool false, .int .u32 0, .int .u32 0, .bool false, .int .u32 0, .int .u32 0, .bool false, .int .u32 0, .int .u32 0] (by kernel_rfl) (by kernel_rfl) 43 #[.bool false, .bool false, .int .u32 0, .int .u32 0, .bool false, .int .u32 0, .int .u32 0, .bool false, .int .u32 0, .int .u32 0, .bool false, .int .u32 0, .int .u32 0, .bool false, .int .u32 0, .int .u32 0, .bool false, .int .u32 0, .int .u32 0, .bool false, .int .u32 0, .int .u32 0, .bool false, .int .u32 0, .int .u32 0, .bool false, .int .u32 0, .int .u32 0, .bool false, .int .u32 0, .int .u32 0] hz0 (by kernel_rfl) (by kernel_rfl) (by kernel_rfl) ?_)
  rw [← hW0]
  clear hz0 hW0
  generalize (Value.agg #[.bool true, .bool false, .int .u32 0, .int .u32 0, .bool false, .int .u32 0, .int .u32 0, .bool false, .int .u32 0, .int .u32 0, .bool false, .int .u32 0, .int .u32 0, .bool false, .int .u32 0, .int .u32 0, .bool false, .int .u32 0, .int .u32 0, .bool false, .int .u32 0, .int .u32 0, .bool false, .int .u32 0, .int .u32 0, .bool false, .int .u32 0, .int .u32 0, .bool false, .int .u32 0, .int .u32 0]) = u42
  obtain ⟨X1, hX1⟩ : ∃ X1, X1 = W0.setCells (w.heap.size + 1) 7 (Rg.a ⟨true, rl, rg⟩).toList := ⟨_, rfl⟩
  obtain ⟨X2, hX2⟩ : ∃ X2, X2 = X1.setCells (w.heap.size + 1) 16 (Rg.a ⟨true, 0, 0⟩).toList := ⟨_, rfl⟩
  obtain ⟨hk1, hE1⟩ : Has X1 (w.heap.size + 1) (comeK.set 2 ⟨true, rl, rg⟩).a 43 ∧ Ex (w.heap.size + 1) W0 X1 := by rw [hX1]; exact setReg hk0 2 (by decide) ⟨true, rl, rg⟩
  have ht0 := there_of (o := 7) (n := 3) hk0 (by rw [Kn.a_size]; decide)
  have ht1 := there_of (o := 16) (n := 3) hk1 (by rw [Kn.a_size]; decide)
  obtain ⟨hk2, hE2⟩ : Has X2 (w.heap.size + 1) (bndK rl rg).a 43 ∧ Ex (w.heap.size + 1) X1 X2 := by rw [hX2]; exact setReg hk1 5 (by decide) ⟨true, 0, 0⟩
  have hE := hE1.trans hE2
  have hB2 := Below.ex hB0 hB0.size hE (by omega)
  have hbox2 := hbox.ex hE (by omega)
  clear hE hE1 hE2 hk1 hk0 hB0
  refine wp_region_lit ?_
  refine wpList_load_row_if rfl 40 _ rfl w.heap.size rfl 40 #[.bool true, .int .u32 (rl : Int), .int .u32 (rg : Int)] (0, 0) _ hbox Tryd.underlying40 rfl (by kernel_rfl) ?_
  refine wpList_val (w' := W0) (v := .agg #[.bool true, .int .u32 0, .int .u32 0]) rfl (by kernel_rfl) ?_
  refine wpList_val (w' := W0) (v := .pointer (some ⟨w.heap.size + 1, 1, none⟩)) rfl (by kernel_rfl) ?_
  refine wpList_val (w' := W0) (v := .pointer (some ⟨w.heap.size + 1, 7, none⟩)) rfl (by kernel_rfl) ?_
  refine wpList_store_mid rfl 40 _ _ rfl (w.heap.size + 1) 7 (Rg.a ⟨true, rl, rg⟩) (by kernel_rfl) (by kernel_rfl) ht0 (by kernel_rfl) (Rg.a_one _) ?_
  rw [← hX1]
  refine wpList_val (w' := X1) (v := .pointer (some ⟨w.heap.size + 1, 1, none⟩)) rfl (by kernel_rfl) ?_
  refine wpList_val (w' := X1) (v := .pointer (some ⟨w.heap.size + 1, 16, none⟩)) rfl (by kernel_rfl) ?_
  refine wpList_store_mid rfl 40 _ _ rfl (w.heap.size + 1) 16 (Rg.a ⟨true, 0, 0⟩) (by kernel_rfl) (by kernel_rfl) ht1 (by kernel_rfl) (Rg.a_one _) ?_
  rw [← hX2]
  clear hX1 hX2 ht0 ht1 hbox
  go_simp
  obtain ⟨X3, hX3⟩ : ∃ X3, X3 = (X2.alloc (.cells #[.int .i64 16, .int .i64 0, .int .i64 2, .int .i64 off, .int .u32 0, .int .i64 17, .int .i64 0, .int .i64 2, .int .i64 off, .int .u32 0, .int .i64 18, .int .i64 2, .int .i64 5, .int .i64 off, .int .u32 0] 38)).alloc (.cells #[.int .i64 ctx, .int .i64 64, .int .i64 64] 2) := ⟨_, rfl⟩
  have hi3 := bnd_row off X3 X2.heap.size (by rw [hX3]; exact has_old (has_new _ _ _ _ rfl))
  have hs3 := bnd_size ctx X3 (X2.heap.size + 1) (by rw [hX3]; exact has_new _ _ _ _ (by simp))
  have hlt3 : X2.heap.size + 1 < X3.heap.size := by rw [hX3]; simp
  have hB23 : Below X2.heap.size X2 X3 := by rw [hX3]; exact ((Below.refl _ _).alloc (Nat.le_refl _) _).alloc (by simp) _
  have HI : Hid (∀ j, j < 3 → X3.rangeAt X2.heap.size (j * 5) (bndI off j).cells) := hi3
  have HS : Hid (∀ j, j < 3 → X3.cell? ⟨X2.heap.size + 1, j, none⟩ = some (.int .i64 (bndZ ctx j))) := hs3
  have hk3 := hk2.below hB23 hk2.lt
  have hbox3 := hbox2.below hB23 hbox2.lt
  have hB3 := hB2.trans (hB23.mono hB2.size)
  clear hi3 hs3 hk2 hbox2 hB2 hB23
  go_upto_region 8 with fail
  rw [← hX3]
  clear hX3
  generalize X2.heap.size = b8 at *
  have HG : Hid (Glob w) := hG
  have HK : Hid (Has X3 (w.heap.size + 1) (bndK rl rg).a 43) := hk3
  have HX : Hid (Has X3 w.heap.size #[.bool true, .int .u32 (rl : Int), .int .u32 (rg : Int)] 40) := hbox3
  have HB : Hid (Below w.heap.size w X3) := hB3
  have HL : Hid (b8 + 1 < X3.heap.size) := hlt3
  clear hk3 hbox3 hB3 hG hlt3
  go_loopw [10] (fun v wr => ∃ j : Nat, j ≤ 3 ∧ v = .int .i64 (j : Int) ∧ Below X3.heap.size X3 wr) (fun v _ => 3 - (intOf v).toNat)
  case atStart => exact ⟨0, by omega, rfl, Below.refl _ _⟩
  case round =>
    obtain ⟨j, hj, rfl, hBr⟩ := hrel
    have HBr : Hid (Below X3.heap.size X3 wr) := hBr
    clear hBr
    by_cases hlt : j < 3
    · have hlt' : (j : Int) < 3 := by omega
      have hgw : Glob wr := HG.out.below (HB.out.trans (HBr.out.mono HB.out.size)) HG.out.size
      have HBH : Hid (∀ X, Below wr.heap.size wr X → Calls Tryd.prog 17 #[.agg (bndI off j).a, .int .i64 ctx, .agg (bndK rl rg).a] X fun e X' => e = .returned (.tuple #[.agg (behV (bndI off j) ctx (bndK rl rg)).1.a, .agg (behV (bndI off j) ctx (bndK rl rg)).2.1.a, .int .i64 (behV (bndI off j) ctx (bndK rl rg)).2.2]) ∧ Below X.heap.size X X') := fun X hX => behind_any _ ctx _ X (hgw.below hX hgw.size) (bndI_imm off j) HOK.out
      have HEj := HE.out j
      have hij := range_eq (HI.out j hlt) (HBr.out.block b8 (by have := HL.out; omega))
      have hkj := HK.out.below HBr.out HK.out.lt
      have hxj := HX.out.below HBr.out HX.out.lt
      have hsj : wr.cell? ⟨b8 + 1, j, none⟩ = some (.int .i64 (bndZ ctx j)) := (HBr.out.cell (p := ⟨b8 + 1, j, none⟩) HL.out).trans (HS.out j hlt)
      have HIJ : Hid (wr.rangeAt b8 (j * 5) (bndI off j).cells ∧ b8 < wr.heap.size) := ⟨hij, by have := HL.out; have := HBr.out.size; omega⟩
      have HKJ : Hid (Has wr (w.heap.size + 1) (bndK rl rg).a 43) := hkj
      have HXJ : Hid (Has wr w.heap.size #[.bool true, .int .u32 (rl : Int), .int .u32 (rg : Int)] 40) := hxj
      have HSJ : Hid (wr.cell? ⟨b8 + 1, j, none⟩ = some (.int .i64 (bndZ ctx j)) ∧ b8 + 1 < wr.heap.size) := ⟨hsj, by have := HL.out; have := HBr.out.size; omega⟩
      clear hgw hij hkj hxj hsj
      generalize behV (bndI off j) ctx (bndK rl rg) = B at *
      obtain ⟨n2, j2, E⟩ := B
      simp only at HEj HBH
      have HEJ : Hid (E = if fits ⟨true, rl, rg⟩ off (bndZ ctx j) then 0 else 163) := HEj
      clear HEj
      generalize hz9 : bndZ ctx j = Z at *
      go_upto_region 10 with fail
      refine wp_region_inv (Φ := fun l vs X => Vals (fun q => match q with | 0 => some (.slice (some ⟨b8, 0, none⟩) 3 3) | 1 => some (.int .i64 (j : Int)) | 2 => some (.pointer (some ⟨b8, j * 5, none⟩)) | 3 => some (.agg (bndI off j).a) | 4 => some (.int .i64 ctx) | 5 => some (.agg (bndK rl rg).a) | 6 => some (.tuple #[.agg n2.a, .agg j2.a, .int .i64 E]) | 7 => some (.tuple #[.agg n2.a, .agg j2.a, .int .i64 E]) | 8 => some (.agg n2.a) | 9 => some (.agg j2.a) | 10 => some (.int .i64 E) | 15 => some (.int .i64 E) | _ => none) l vs ∧ Ph2 13 14 (Two wr.heap.size 43 noK.a wr 11 12) (fun vs X => Both wr.heap.size 43 n2.a noK.a wr (vs 11) (vs 12) X) (fun vs X => Both wr.heap.size 43 n2.a j2.a wr (vs 11) (vs 12) X) l vs X) (PQ := fun _ _ => False)
        (by kernel_rfl) (by kernel_rfl) (by kernel_rfl) (by kernel_rfl) ⟨Vals.none _ _, Ph2.start (Two.start ((Below.refl _ _).drew) (Nat.le_refl _))⟩ ?hop ?hend (fun _ _ _ _ h => h.elim)
      case hop =>
        refine ⟨?_, ?_, ?_, ?_, ?_, ?_, ?_, ?_, ?_, ?_, ?_, ?_, ?_, ?_, ?_, ?_, trivial⟩
        · intro l vs X A hA ⟨hV, hS⟩ hl hd hcl
          have hj := notYet (k := 13) hcl (by kernel_rfl) hl
          have hk := notYet (k := 14) hcl (by kernel_rfl) hl
          have hX := hS.1 hj
          have hB := hX.below
          have a8 := eval_old hA 8 (by kernel_rfl) rfl
          refine show_value (v := .slice (some ⟨b8, 0, none⟩) 3 3) (X' := X) ?_ ⟨hV.upd (fun _ h => Option.some.inj h), Ph2.keep hj hk (by decide) (by decide) (hX.grow (Below.refl _ _) (by decide) (by decide) _)⟩
          generalize A.eval = ρ at *
          clear hA hl hd hcl hV hS
          go_simp
        · intro l vs X A hA ⟨hV, hS⟩ hl hd hcl
          have hj := notYet (k := 13) hcl (by kernel_rfl) hl
          have hk := notYet (k := 14) hcl (by kernel_rfl) hl
          have hX := hS.1 hj
          have hB := hX.below
          have a10 := eval_old hA 10 (by kernel_rfl) rfl
          refine show_value (v := .int .i64 (j : Int)) (X' := X) ?_ ⟨hV.upd (fun _ h => Option.some.inj h), Ph2.keep hj hk (by decide) (by decide) (hX.grow (Below.refl _ _) (by decide) (by decide) _)⟩
          generalize A.eval = ρ at *
          clear hA hl hd hcl hV hS
          go_simp
        · intro l vs X A hA ⟨hV, hS⟩ hl hd hcl
          have hj := notYet (k := 13) hcl (by kernel_rfl) hl
          have hk := notYet (k := 14) hcl (by kernel_rfl) hl
          have hX := hS.1 hj
          have hB := hX.below
          have a65 := eval_new hA 65 0 (by kernel_rfl) (by kernel_rfl) (by kernel_rfl) (hd 0 (by kernel_rfl)) (hV 0 _ (hd 0 (by kernel_rfl)) rfl)
          have a66 := eval_new hA 66 1 (by kernel_rfl) (by kernel_rfl) (by kernel_rfl) (hd 1 (by kernel_rfl)) (hV 1 _ (hd 1 (by kernel_rfl)) rfl)
          refine show_value (v := .pointer (some ⟨b8, j * 5, none⟩)) (X' := X) ?_ ⟨hV.upd (fun _ h => Option.some.inj h), Ph2.keep hj hk (by decide) (by decide) (hX.grow (Below.refl _ _) (by decide) (by decide) _)⟩
          generalize A.eval = ρ at *
          clear hA hl hd hcl hV hS
          go_simp
        · intro l vs X A hA ⟨hV, hS⟩ hl hd hcl
          have hj := notYet (k := 13) hcl (by kernel_rfl) hl
          have hk := notYet (k := 14) hcl (by kernel_rfl) hl
          have hX := hS.1 hj
          have hB := hX.below
          have a67 := eval_new hA 67 2 (by kernel_rfl) (by kernel_rfl) (by kernel_rfl) (hd 2 (by kernel_rfl)) (hV 2 _ (hd 2 (by kernel_rfl)) rfl)
          refine show_value (v := .agg (bndI off j).a) (X' := X) (run_ld 38 _ rfl _ a67 (ld_row (l := (bndI off j).cells) (range_eq HIJ.out.1 (hB.block b8 HIJ.out.2)) (by kernel_rfl))) ⟨hV.upd (fun _ h => Option.some.inj h), Ph2.keep hj hk (by decide) (by decide) (hX.grow (Below.refl _ _) (by decide) (by decide) _)⟩
        · intro l vs X A hA ⟨hV, hS⟩ hl hd hcl
          have hj := notYet (k := 13) hcl (by kernel_rfl) hl
          have hk := notYet (k := 14) hcl (by kernel_rfl) hl
          have hX := hS.1 hj
          have hB := hX.below
          have a2 := eval_old hA 2 (by kernel_rfl) rfl
          refine show_value (v := .int .i64 ctx) (X' := X) ?_ ⟨hV.upd (fun _ h => Option.some.inj h), Ph2.keep hj hk (by decide) (by decide) (hX.grow (Below.refl _ _) (by decide) (by decide) _)⟩
          generalize A.eval = ρ at *
          clear hA hl hd hcl hV hS
          go_simp
        · intro l vs X A hA ⟨hV, hS⟩ hl hd hcl
          have hj := notYet (k := 13) hcl (by kernel_rfl) hl
          have hk := notYet (k := 14) hcl (by kernel_rfl) hl
          have hX := hS.1 hj
          have hB := hX.below
          have a7 := eval_old hA 7 (by kernel_rfl) rfl
          refine show_value (v := .agg (bndK rl rg).a) (X' := X) (run_ld 43 _ rfl _ a7 (ld_row (l := (bndK rl rg).cells) (has_whole (HKJ.out.below hB HKJ.out.lt)) (by kernel_rfl))) ⟨hV.upd (fun _ h => Option.some.inj h), Ph2.keep hj hk (by decide) (by decide) (hX.grow (Below.refl _ _) (by decide) (by decide) _)⟩
        · intro l vs X A hA ⟨hV, hS⟩ hl hd hcl
          have hj := notYet (k := 13) hcl (by kernel_rfl) hl
          have hk := notYet (k := 14) hcl (by kernel_rfl) hl
          have hX := hS.1 hj
          have hB := hX.below
          have a68 := eval_new hA 68 3 (by kernel_rfl) (by kernel_rfl) (by kernel_rfl) (hd 3 (by kernel_rfl)) (hV 3 _ (hd 3 (by kernel_rfl)) rfl)
          have a69 := eval_new hA 69 4 (by kernel_rfl) (by kernel_rfl) (by kernel_rfl) (hd 4 (by kernel_rfl)) (hV 4 _ (hd 4 (by kernel_rfl)) rfl)
          have a70 := eval_new hA 70 5 (by kernel_rfl) (by kernel_rfl) (by kernel_rfl) (hd 5 (by kernel_rfl)) (hV 5 _ (hd 5 (by kernel_rfl)) rfl)
          have aF0 : A.eval (.func 17) = .func (.func 17) #[] #[] := rfl
          refine show_call (f := 17) (args := #[.agg (bndI off j).a, .int .i64 ctx, .agg (bndK rl rg).a]) ?_ (HBH.out X hB) ?_
          · generalize A.eval = ρ at *
            clear hA hl hd hcl hV hS
            go_simp
          · rintro e X' ⟨rfl, hB1⟩
            exact .inl ⟨_, rfl, hV.upd (fun _ h => Option.some.inj h), Ph2.keep hj hk (by decide) (by decide) (hX.grow hB1 (by decide) (by decide) _)⟩
        · intro l vs X A hA ⟨hV, hS⟩ hl hd hcl
          have hj := notYet (k := 13) hcl (by kernel_rfl) hl
          have hk := notYet (k := 14) hcl (by kernel_rfl) hl
          have hX := hS.1 hj
          have hB := hX.below
          have a71 := eval_new hA 71 6 (by kernel_rfl) (by kernel_rfl) (by kernel_rfl) (hd 6 (by kernel_rfl)) (hV 6 _ (hd 6 (by kernel_rfl)) rfl)
          refine show_value (v := .tuple #[.agg n2.a, .agg j2.a, .int .i64 E]) (X' := X) ?_ ⟨hV.upd (fun _ h => Option.some.inj h), Ph2.keep hj hk (by decide) (by decide) (hX.grow (Below.refl _ _) (by decide) (by decide) _)⟩
          generalize A.eval = ρ at *
          clear hA hl hd hcl hV hS
          go_simp
        · intro l vs X A hA ⟨hV, hS⟩ hl hd hcl
          have hj := notYet (k := 13) hcl (by kernel_rfl) hl
          have hk := notYet (k := 14) hcl (by kernel_rfl) hl
          have hX := hS.1 hj
          have hB := hX.below
          have a64 := eval_new hA 64 7 (by kernel_rfl) (by kernel_rfl) (by kernel_rfl) (hd 7 (by kernel_rfl)) (hV 7 _ (hd 7 (by kernel_rfl)) rfl)
          refine show_value (v := .agg n2.a) (X' := X) ?_ ⟨hV.upd (fun _ h => Option.some.inj h), Ph2.keep hj hk (by decide) (by decide) (hX.grow (Below.refl _ _) (by decide) (by decide) _)⟩
          generalize A.eval = ρ at *
          clear hA hl hd hcl hV hS
          go_simp
        · intro l vs X A hA ⟨hV, hS⟩ hl hd hcl
          have hk := notYet (k := 14) hcl (by kernel_rfl) hl
          have a64 := eval_new hA 64 7 (by kernel_rfl) (by kernel_rfl) (by kernel_rfl) (hd 7 (by kernel_rfl)) (hV 7 _ (hd 7 (by kernel_rfl)) rfl)
          cases hj : l 13 with
          | true =>
            have hX := hS.2.1 hj hk
            exact show_value (v := .agg j2.a) (X' := X) (by generalize A.eval = ρ at *; clear hA hl hd hcl hV hS; go_simp) ⟨hV.upd (fun _ h => Option.some.inj h), Ph2.keepMid hj hk (by decide) (by decide) hX⟩
          | false =>
            have hX := hS.1 hj
            have hB := hX.below
            exact show_value (v := .agg j2.a) (X' := X) (by generalize A.eval = ρ at *; clear hA hl hd hcl hV hS; go_simp) ⟨hV.upd (fun _ h => Option.some.inj h), Ph2.keep hj hk (by decide) (by decide) (hX.grow (Below.refl _ _) (by decide) (by decide) _)⟩
        · intro l vs X A hA ⟨hV, hS⟩ hl hd hcl
          have a64 := eval_new hA 64 7 (by kernel_rfl) (by kernel_rfl) (by kernel_rfl) (hd 7 (by kernel_rfl)) (hV 7 _ (hd 7 (by kernel_rfl)) rfl)
          cases hk : l 14 with
          | true =>
            have hj : l 13 = true := hcl 14 13 (by kernel_rfl) hk
            have hX := hS.2.2 hk
            exact show_value (v := .int .i64 E) (X' := X) (by generalize A.eval = ρ at *; clear hA hl hd hcl hV hS; go_simp) ⟨hV.upd (fun _ h => Option.some.inj h), Ph2.keepEnd hj hk (by decide) (by decide) hX⟩
          | false =>
            cases hj : l 13 with
            | true =>
              have hX := hS.2.1 hj hk
              exact show_value (v := .int .i64 E) (X' := X) (by generalize A.eval = ρ at *; clear hA hl hd hcl hV hS; go_simp) ⟨hV.upd (fun _ h => Option.some.inj h), Ph2.keepMid hj hk (by decide) (by decide) hX⟩
            | false =>
              have hX := hS.1 hj
              have hB := hX.below
              exact show_value (v := .int .i64 E) (X' := X) (by generalize A.eval = ρ at *; clear hA hl hd hcl hV hS; go_simp) ⟨hV.upd (fun _ h => Option.some.inj h), Ph2.keep hj hk (by decide) (by decide) (hX.grow (Below.refl _ _) (by decide) (by decide) _)⟩
        · intro l vs X A hA ⟨hV, hS⟩ hl hd hcl
          have hj := notYet (k := 13) hcl (by kernel_rfl) hl
          have hk := notYet (k := 14) hcl (by kernel_rfl) hl
          have hX := hS.1 hj
          have hB := hX.below
          refine show_value (v := .pointer (some ⟨X.heap.size, 0, none⟩)) (X' := X.alloc (.cells noK.a 43)) ?_ ⟨hV.upd (fun _ h => by cases h), Ph2.keep hj hk (by decide) (by decide) (hX.mkFst (by decide))⟩
          generalize A.eval = ρ at *
          clear hA hl hd hcl hV hS
          rfl
        · intro l vs X A hA ⟨hV, hS⟩ hl hd hcl
          have hj := notYet (k := 13) hcl (by kernel_rfl) hl
          have hk := notYet (k := 14) hcl (by kernel_rfl) hl
          have hX := hS.1 hj
          have hB := hX.below
          refine show_value (v := .pointer (some ⟨X.heap.size, 0, none⟩)) (X' := X.alloc (.cells noK.a 43)) ?_ ⟨hV.upd (fun _ h => by cases h), Ph2.keep hj hk (by decide) (by decide) (hX.mkSnd (by decide))⟩
          generalize A.eval = ρ at *
          clear hA hl hd hcl hV hS
          rfl
        · intro l vs X A hA ⟨hV, hS⟩ hl hd hcl
          have hk := notYet (k := 14) hcl (by kernel_rfl) hl
          have hX := hS.1 hl
          have a11 := eval_new hA 11 11 (by kernel_rfl) (by kernel_rfl) (by kernel_rfl) (hd 11 (by kernel_rfl)) (rfl : vs 11 = vs 11)
          have a72 := eval_new hA 72 8 (by kernel_rfl) (by kernel_rfl) (by kernel_rfl) (hd 8 (by kernel_rfl)) (hV 8 _ (hd 8 (by kernel_rfl)) rfl)
          obtain ⟨b, hb, hH, hT⟩ := (hX.both (hd 11 (by kernel_rfl)) (hd 12 (by kernel_rfl))).setFst (x' := n2.a)
          rw [hb] at a11
          refine show_skip (run_st_row 43 _ _ rfl b _ _ _ a11 a72 hH (by kernel_rfl) (by kernel_rfl) (Kn.a_one _)) ⟨hV.upd (fun _ h => by cases h), Ph2.mid hk (by decide) ?_⟩
          exact hT
        · intro l vs X A hA ⟨hV, hS⟩ hl hd hcl
          have hX := hS.2.1 (hd 13 (by kernel_rfl)) hl
          have a12 := eval_new hA 12 12 (by kernel_rfl) (by kernel_rfl) (by kernel_rfl) (hd 12 (by kernel_rfl)) (rfl : vs 12 = vs 12)
          have a73 := eval_new hA 73 9 (by kernel_rfl) (by kernel_rfl) (by kernel_rfl) (hd 9 (by kernel_rfl)) (hV 9 _ (hd 9 (by kernel_rfl)) rfl)
          obtain ⟨b, hb, hH, hT⟩ := hX.setSnd (y' := j2.a)
          rw [hb] at a12
          refine show_skip (run_st_row 43 _ _ rfl b _ _ _ a12 a73 hH (by kernel_rfl) (by kernel_rfl) (Kn.a_one _)) ⟨hV.upd (fun _ h => by cases h), Ph2.last (hd 13 (by kernel_rfl)) ?_⟩
          exact hT
        · intro l vs X A hA ⟨hV, hS⟩ hl hd hcl
          have hk : l 14 = true := hd 14 (by kernel_rfl)
          have hj : l 13 = true := hcl 14 13 (by kernel_rfl) hk
          have hX := hS.2.2 hk
          have a74 := eval_new hA 74 10 (by kernel_rfl) (by kernel_rfl) (by kernel_rfl) (hd 10 (by kernel_rfl)) (hV 10 _ (hd 10 (by kernel_rfl)) rfl)
          refine show_value (v := .int .i64 E) (X' := X) ?_ ⟨hV.upd (fun _ h => Option.some.inj h), Ph2.keepEnd hj hk (by decide) (by decide) hX⟩
          generalize A.eval = ρ at *
          clear hA hl hd hcl hV hS hX
          go_simp
      case hend =>
        intro l vs X hl ⟨hV, hS⟩
        have hX := hS.2.2 (hl 14 (by decide))
        have v0 := hV 0 _ (hl 0 (by decide)) rfl
        have v1 := hV 1 _ (hl 1 (by decide)) rfl
        have v2 := hV 2 _ (hl 2 (by decide)) rfl
        have v3 := hV 3 _ (hl 3 (by decide)) rfl
        have v4 := hV 4 _ (hl 4 (by decide)) rfl
        have v5 := hV 5 _ (hl 5 (by decide)) rfl
        have v6 := hV 6 _ (hl 6 (by decide)) rfl
        have v7 := hV 7 _ (hl 7 (by decide)) rfl
        have v8 := hV 8 _ (hl 8 (by decide)) rfl
        have v9 := hV 9 _ (hl 9 (by decide)) rfl
        have v10 := hV 10 _ (hl 10 (by decide)) rfl
        have v15 := hV 15 _ (hl 15 (by decide)) rfl
        clear hV hS hl
        obtain ⟨b6, b7, u6, u7, g6, g7, hne, hb6, hb7, hB9⟩ := hX
        simp only [canonL, if_true, v0, v1, v2, v3, v4, v5, v6, v7, v8, v9, v10, v15, u6, u7]
        clear v0 v1 v2 v3 v4 v5 v6 v7 v8 v9 v10 v15 u6 u7
        go_simp
        have hw9 : Below X3.heap.size X3 X := HBr.out.trans (hB9.mono HBr.out.size)
        have hx5 := HXJ.out.below hB9 HXJ.out.lt
        have HS5 : Hid (X.cell? ⟨b8 + 1, j, none⟩ = some (.int .i64 Z) ∧ b8 + 1 < X.heap.size) := ⟨(hB9.cell (p := ⟨b8 + 1, j, none⟩) HSJ.out.2).trans HSJ.out.1, Nat.lt_of_lt_of_le HSJ.out.2 hB9.size⟩
        clear hb6 hb7 hne g6 g7 HBH HIJ HKJ HSJ HXJ hB9 HBr
        obtain ⟨W5, hren⟩ : ∃ Z, Z = X := ⟨_, rfl⟩
        subst hren
        go_upto_region 11 with fail
        have hS0 : Below W5.heap.size W5 W5.drew := (Below.refl _ _).drew
        have e1 : IntKind.i64.wrap (rl : Int) = (rl : Int) := by rw [IntKind.wrap_i64]; omega
        have e2 : IntKind.i64.wrap (rg : Int) = (rg : Int) := by rw [IntKind.wrap_i64]; omega
        have e3 : IntKind.i64.wrap ((rl : Int) + off) = (rl : Int) + off := by rw [IntKind.wrap_i64]; omega
        have e4 : IntKind.i64.wrap ((rg : Int) + off) = (rg : Int) + off := by rw [IntKind.wrap_i64]; omega
        by_cases hb1 : 0 ≤ (rl : Int) + off
        · by_cases hb2 : (rg : Int) + off < Z
          · obtain rfl : E = 0 := by rw [HEJ.out]; unfold fits; simp only; rw [decide_eq_true hb1, decide_eq_true hb2]; rfl
            clear HEJ
            refine wp_region_K (S := fun X => Below W5.heap.size W5 X) (fun _ => true) (by kernel_rfl) ?_
            refine K_take (i := 0) (v := .pointer (some ⟨w.heap.size, 1, none⟩)) rfl (by kernel_rfl) (by kernel_rfl) (by kernel_rfl) (by kernel_rfl) (by kernel_rfl) (by kernel_rfl) (fun w' hS => by kernel_rfl) hS0 ?_
            refine K_take (i := 1) (v := .int .u32 (rl : Int)) rfl (by kernel_rfl) (by kernel_rfl) (by kernel_rfl) (by kernel_rfl) (by kernel_rfl) (by kernel_rfl) (fun w' hS => by have c : w'.cell? ⟨w.heap.size, 1, none⟩ = some (.int .u32 (rl : Int)) := (hx5.below hS hx5.lt).cell 1; go_simp) hS0 ?_
            refine K_take (i := 2) (v := .int .i64 (rl : Int)) rfl (by kernel_rfl) (by kernel_rfl) (by kernel_rfl) (by kernel_rfl) (by kernel_rfl) (by kernel_rfl) (fun w' hS => by go_simp) hS0 ?_
            refine K_take (i := 3) (v := .int .i64 off) rfl (by kernel_rfl) (by kernel_rfl) (by kernel_rfl) (by kernel_rfl) (by kernel_rfl) (by kernel_rfl) (fun w' hS => by kernel_rfl) hS0 ?_
            refine K_take (i := 4) (v := .int .i64 ((rl : Int) + off)) rfl (by kernel_rfl) (by kernel_rfl) (by kernel_rfl) (by kernel_rfl) (by kernel_rfl) (by kernel_rfl) (fun w' hS => by go_simp) hS0 ?_
            refine K_take (i := 5) (v := .bool true) rfl (by kernel_rfl) (by kernel_rfl) (by kernel_rfl) (by kernel_rfl) (by kernel_rfl) (by kernel_rfl) (fun w' hS => by go_simp) hS0 ?_
            refine K_take (i := 6) (v := .bool true) rfl (by kernel_rfl) (by kernel_rfl) (by kernel_rfl) (by kernel_rfl) (by kernel_rfl) (by kernel_rfl) (fun w' hS => by kernel_rfl) hS0 ?_
            refine K_take (i := 7) (v := .pointer (some ⟨w.heap.size, 2, none⟩)) rfl (by kernel_rfl) (by kernel_rfl) (by kernel_rfl) (by kernel_rfl) (by kernel_rfl) (by kernel_rfl) (fun w' hS => by kernel_rfl) hS0 ?_
            refine K_take (i := 8) (v := .int .u32 (rg : Int)) rfl (by kernel_rfl) (by kernel_rfl) (by kernel_rfl) (by kernel_rfl) (by kernel_rfl) (by kernel_rfl) (fun w' hS => by have c : w'.cell? ⟨w.heap.size, 2, none⟩ = some (.int .u32 (rg : Int)) := (hx5.below hS hx5.lt).cell 2; go_simp) hS0 ?_
            refine K_take (i := 9) (v := .int .i64 (rg : Int)) rfl (by kernel_rfl) (by kernel_rfl) (by kernel_rfl) (by kernel_rfl) (by kernel_rfl) (by kernel_rfl) (fun w' hS => by go_simp) hS0 ?_
            refine K_take (i := 10) (v := .int .i64 off) rfl (by kernel_rfl) (by kernel_rfl) (by kernel_rfl) (by kernel_rfl) (by kernel_rfl) (by kernel_rfl) (fun w' hS => by kernel_rfl) hS0 ?_
            refine K_take (i := 11) (v := .int .i64 ((rg : Int) + off)) rfl (by kernel_rfl) (by kernel_rfl) (by kernel_rfl) (by kernel_rfl) (by kernel_rfl) (by kernel_rfl) (fun w' hS => by go_simp) hS0 ?_
            refine K_take (i := 12) (v := .slice (some ⟨b8 + 1, 0, none⟩) 3 3) rfl (by kernel_rfl) (by kernel_rfl) (by kernel_rfl) (by kernel_rfl) (by kernel_rfl) (by kernel_rfl) (fun w' hS => by kernel_rfl) hS0 ?_
            refine K_take (i := 13) (v := .int .i64 (j : Int)) rfl (by kernel_rfl) (by kernel_rfl) (by kernel_rfl) (by kernel_rfl) (by kernel_rfl) (by kernel_rfl) (fun w' hS => by kernel_rfl) hS0 ?_
            refine K_take (i := 14) (v := .pointer (some ⟨b8 + 1, j, none⟩)) rfl (by kernel_rfl) (by kernel_rfl) (by kernel_rfl) (by kernel_rfl) (by kernel_rfl) (by kernel_rfl) (fun w' hS => by go_simp) hS0 ?_
            refine K_take (i := 15) (v := .int .i64 Z) rfl (by kernel_rfl) (by kernel_rfl) (by kernel_rfl) (by kernel_rfl) (by kernel_rfl) (by kernel_rfl) (fun w' hS => by have c : w'.cell? ⟨b8 + 1, j, none⟩ = some (.int .i64 Z) := (hS.cell (p := ⟨b8 + 1, j, none⟩) HS5.out.2).trans HS5.out.1; go_simp) hS0 ?_
            refine K_take (i := 16) (v := .bool true) rfl (by kernel_rfl) (by kernel_rfl) (by kernel_rfl) (by kernel_rfl) (by kernel_rfl) (by kernel_rfl) (fun w' hS => by go_simp) hS0 ?_
            refine K_take (i := 17) (v := .bool true) rfl (by kernel_rfl) (by kernel_rfl) (by kernel_rfl) (by kernel_rfl) (by kernel_rfl) (by kernel_rfl) (fun w' hS => by kernel_rfl) hS0 ?_
            refine K_take (i := 18) (v := .bool true) rfl (by kernel_rfl) (by kernel_rfl) (by kernel_rfl) (by kernel_rfl) (by kernel_rfl) (by kernel_rfl) (fun w' hS => by kernel_rfl) hS0 ?_
            refine K_done (by kernel_rfl) ?_
            go_simp
            have hw6 : Below X3.heap.size X3 W5.drew := hw9.trans (hS0.mono hw9.size)
            clear hx5 hS0 e1 e2 e3 e4 hw9
            generalize W5.drew = W6 at *
            go_wp2_with fail
            go_roundw
            case rel => exact ⟨j + 1, by omega, by simp, hw6⟩
            case measure => simp [intOf]; omega
          · obtain rfl : E = 163 := by rw [HEJ.out]; unfold fits; simp only; rw [decide_eq_true hb1, decide_eq_false hb2]; rfl
            clear HEJ
            refine wp_region_K (S := fun X => Below W5.heap.size W5 X) (fun _ => true) (by kernel_rfl) ?_
            refine K_take (i := 0) (v := .pointer (some ⟨w.heap.size, 1, none⟩)) rfl (by kernel_rfl) (by kernel_rfl) (by kernel_rfl) (by kernel_rfl) (by kernel_rfl) (by kernel_rfl) (fun w' hS => by kernel_rfl) hS0 ?_
            refine K_take (i := 1) (v := .int .u32 (rl : Int)) rfl (by kernel_rfl) (by kernel_rfl) (by kernel_rfl) (by kernel_rfl) (by kernel_rfl) (by kernel_rfl) (fun w' hS => by have c : w'.cell? ⟨w.heap.size, 1, none⟩ = some (.int .u32 (rl : Int)) := (hx5.below hS hx5.lt).cell 1; go_simp) hS0 ?_
            refine K_take (i := 2) (v := .int .i64 (rl : Int)) rfl (by kernel_rfl) (by kernel_rfl) (by kernel_rfl) (by kernel_rfl) (by kernel_rfl) (by kernel_rfl) (fun w' hS => by go_simp) hS0 ?_
            refine K_take (i := 3) (v := .int .i64 off) rfl (by kernel_rfl) (by kernel_rfl) (by kernel_rfl) (by kernel_rfl) (by kernel_rfl) (by kernel_rfl) (fun w' hS => by kernel_rfl) hS0 ?_
            refine K_take (i := 4) (v := .int .i64 ((rl : Int) + off)) rfl (by kernel_rfl) (by kernel_rfl) (by kernel_rfl) (by kernel_rfl) (by kernel_rfl) (by kernel_rfl) (fun w' hS => by go_simp) hS0 ?_
            refine K_take (i := 5) (v := .bool true) rfl (by kernel_rfl) (by kernel_rfl) (by kernel_rfl) (by kernel_rfl) (by kernel_rfl) (by kernel_rfl) (fun w' hS => by go_simp) hS0 ?_
            refine K_take (i := 6) (v := .bool true) rfl (by kernel_rfl) (by kernel_rfl) (by kernel_rfl) (by kernel_rfl) (by kernel_rfl) (by kernel_rfl) (fun w' hS => by kernel_rfl) hS0 ?_
            refine K_take (i := 7) (v := .pointer (some ⟨w.heap.size, 2, none⟩)) rfl (by kernel_rfl) (by kernel_rfl) (by kernel_rfl) (by kernel_rfl) (by kernel_rfl) (by kernel_rfl) (fun w' hS => by kernel_rfl) hS0 ?_
            refine K_take (i := 8) (v := .int .u32 (rg : Int)) rfl (by kernel_rfl) (by kernel_rfl) (by kernel_rfl) (by kernel_rfl) (by kernel_rfl) (by kernel_rfl) (fun w' hS => by have c : w'.cell? ⟨w.heap.size, 2, none⟩ = some (.int .u32 (rg : Int)) := (hx5.below hS hx5.lt).cell 2; go_simp) hS0 ?_
            refine K_take (i := 9) (v := .int .i64 (rg : Int)) rfl (by kernel_rfl) (by kernel_rfl) (by kernel_rfl) (by kernel_rfl) (by kernel_rfl) (by kernel_rfl) (fun w' hS => by go_simp) hS0 ?_
            refine K_take (i := 10) (v := .int .i64 off) rfl (by kernel_rfl) (by kernel_rfl) (by kernel_rfl) (by kernel_rfl) (by kernel_rfl) (by kernel_rfl) (fun w' hS => by kernel_rfl) hS0 ?_
            refine K_take (i := 11) (v := .int .i64 ((rg : Int) + off)) rfl (by kernel_rfl) (by kernel_rfl) (by kernel_rfl) (by kernel_rfl) (by kernel_rfl) (by kernel_rfl) (fun w' hS => by go_simp) hS0 ?_
            refine K_take (i := 12) (v := .slice (some ⟨b8 + 1, 0, none⟩) 3 3) rfl (by kernel_rfl) (by kernel_rfl) (by kernel_rfl) (by kernel_rfl) (by kernel_rfl) (by kernel_rfl) (fun w' hS => by kernel_rfl) hS0 ?_
            refine K_take (i := 13) (v := .int .i64 (j : Int)) rfl (by kernel_rfl) (by kernel_rfl) (by kernel_rfl) (by kernel_rfl) (by kernel_rfl) (by kernel_rfl) (fun w' hS => by kernel_rfl) hS0 ?_
            refine K_take (i := 14) (v := .pointer (some ⟨b8 + 1, j, none⟩)) rfl (by kernel_rfl) (by kernel_rfl) (by kernel_rfl) (by kernel_rfl) (by kernel_rfl) (by kernel_rfl) (fun w' hS => by go_simp) hS0 ?_
            refine K_take (i := 15) (v := .int .i64 Z) rfl (by kernel_rfl) (by kernel_rfl) (by kernel_rfl) (by kernel_rfl) (by kernel_rfl) (by kernel_rfl) (fun w' hS => by have c : w'.cell? ⟨b8 + 1, j, none⟩ = some (.int .i64 Z) := (hS.cell (p := ⟨b8 + 1, j, none⟩) HS5.out.2).trans HS5.out.1; go_simp) hS0 ?_
            refine K_take (i := 16) (v := .bool false) rfl (by kernel_rfl) (by kernel_rfl) (by kernel_rfl) (by kernel_rfl) (by kernel_rfl) (by kernel_rfl) (fun w' hS => by go_simp) hS0 ?_
            refine K_take (i := 17) (v := .bool false) rfl (by kernel_rfl) (by kernel_rfl) (by kernel_rfl) (by kernel_rfl) (by kernel_rfl) (by kernel_rfl) (fun w' hS => by kernel_rfl) hS0 ?_
            refine K_take (i := 18) (v := .bool false) rfl (by kernel_rfl) (by kernel_rfl) (by kernel_rfl) (by kernel_rfl) (by kernel_rfl) (by kernel_rfl) (fun w' hS => by kernel_rfl) hS0 ?_
            refine K_done (by kernel_rfl) ?_
            go_simp
            have hw6 : Below X3.heap.size X3 W5.drew := hw9.trans (hS0.mono hw9.size)
            clear hx5 hS0 e1 e2 e3 e4 hw9
            generalize W5.drew = W6 at *
            go_wp2_with fail
            go_roundw
            case rel => exact ⟨j + 1, by omega, by simp, hw6⟩
            case measure => simp [intOf]; omega
        · obtain rfl : E = 163 := by rw [HEJ.out]; unfold fits; simp only; rw [decide_eq_false hb1]; rfl
          clear HEJ
          refine wp_region_K (S := fun X => Below W5.heap.size W5 X) (fun _ => true) (by kernel_rfl) ?_
          refine K_take (i := 0) (v := .pointer (some ⟨w.heap.size, 1, none⟩)) rfl (by kernel_rfl) (by kernel_rfl) (by kernel_rfl) (by kernel_rfl) (by kernel_rfl) (by kernel_rfl) (fun w' hS => by kernel_rfl) hS0 ?_
          refine K_take (i := 1) (v := .int .u32 (rl : Int)) rfl (by kernel_rfl) (by kernel_rfl) (by kernel_rfl) (by kernel_rfl) (by kernel_rfl) (by kernel_rfl) (fun w' hS => by have c : w'.cell? ⟨w.heap.size, 1, none⟩ = some (.int .u32 (rl : Int)) := (hx5.below hS hx5.lt).cell 1; go_simp) hS0 ?_
          refine K_take (i := 2) (v := .int .i64 (rl : Int)) rfl (by kernel_rfl) (by kernel_rfl) (by kernel_rfl) (by kernel_rfl) (by kernel_rfl) (by kernel_rfl) (fun w' hS => by go_simp) hS0 ?_
          refine K_take (i := 3) (v := .int .i64 off) rfl (by kernel_rfl) (by kernel_rfl) (by kernel_rfl) (by kernel_rfl) (by kernel_rfl) (by kernel_rfl) (fun w' hS => by kernel_rfl) hS0 ?_
          refine K_take (i := 4) (v := .int .i64 ((rl : Int) + off)) rfl (by kernel_rfl) (by kernel_rfl) (by kernel_rfl) (by kernel_rfl) (by kernel_rfl) (by kernel_rfl) (fun w' hS => by go_simp) hS0 ?_
          refine K_take (i := 5) (v := .bool false) rfl (by kernel_rfl) (by kernel_rfl) (by kernel_rfl) (by kernel_rfl) (by kernel_rfl) (by kernel_rfl) (fun w' hS => by go_simp) hS0 ?_
          refine K_take (i := 6) (v := .bool false) rfl (by kernel_rfl) (by kernel_rfl) (by kernel_rfl) (by kernel_rfl) (by kernel_rfl) (by kernel_rfl) (fun w' hS => by kernel_rfl) hS0 ?_
          refine K_skip (i := 7) rfl (by kernel_rfl) (by kernel_rfl) (by kernel_rfl) (by kernel_rfl) (by kernel_rfl) (by kernel_rfl) hS0 ?_
          refine K_skip (i := 8) rfl (by kernel_rfl) (by kernel_rfl) (by kernel_rfl) (by kernel_rfl) (by kernel_rfl) (by kernel_rfl) hS0 ?_
          refine K_skip (i := 9) rfl (by kernel_rfl) (by kernel_rfl) (by kernel_rfl) (by kernel_rfl) (by kernel_rfl) (by kernel_rfl) hS0 ?_
          refine K_skip (i := 10) rfl (by kernel_rfl) (by kernel_rfl) (by kernel_rfl) (by kernel_rfl) (by kernel_rfl) (by kernel_rfl) hS0 ?_
          refine K_skip (i := 11) rfl (by kernel_rfl) (by kernel_rfl) (by kernel_rfl) (by kernel_rfl) (by kernel_rfl) (by kernel_rfl) hS0 ?_
          refine K_skip (i := 12) rfl (by kernel_rfl) (by kernel_rfl) (by kernel_rfl) (by kernel_rfl) (by kernel_rfl) (by kernel_rfl) hS0 ?_
          refine K_skip (i := 13) rfl (by kernel_rfl) (by kernel_rfl) (by kernel_rfl) (by kernel_rfl) (by kernel_rfl) (by kernel_rfl) hS0 ?_
          refine K_skip (i := 14) rfl (by kernel_rfl) (by kernel_rfl) (by kernel_rfl) (by kernel_rfl) (by kernel_rfl) (by kernel_rfl) hS0 ?_
          refine K_skip (i := 15) rfl (by kernel_rfl) (by kernel_rfl) (by kernel_rfl) (by kernel_rfl) (by kernel_rfl) (by kernel_rfl) hS0 ?_
          refine K_skip (i := 16) rfl (by kernel_rfl) (by kernel_rfl) (by kernel_rfl) (by kernel_rfl) (by kernel_rfl) (by kernel_rfl) hS0 ?_
          refine K_take (i := 17) (v := .bool false) rfl (by kernel_rfl) (by kernel_rfl) (by kernel_rfl) (by kernel_rfl) (by kernel_rfl) (by kernel_rfl) (fun w' hS => by kernel_rfl) hS0 ?_
          refine K_take (i := 18) (v := .bool false) rfl (by kernel_rfl) (by kernel_rfl) (by kernel_rfl) (by kernel_rfl) (by kernel_rfl) (by kernel_rfl) (fun w' hS => by kernel_rfl) hS0 ?_
          refine K_done (by kernel_rfl) ?_
          go_simp
          have hw6 : Below X3.heap.size X3 W5.drew := hw9.trans (hS0.mono hw9.size)
          clear hx5 hS0 e1 e2 e3 e4 hw9
          generalize W5.drew = W6 at *
          go_wp2_with fail
          go_roundw
          case rel => exact ⟨j + 1, by omega, by simp, hw6⟩
          case measure => simp [intOf]; omega
    · obtain rfl : j = 3 := by omega
      have hw6 : Below w.heap.size w wr := HB.out.trans (HBr.out.mono HB.out.size)
      have hkn := knownl_any wr (HG.out.below hw6 HG.out.size)
      go_wp2_with (go_at_call 12; refine hkn.mono ?_; rintro e W9 ⟨rfl, hB9⟩)
      go_ret
      exact ⟨rfl, hw6.trans (hB9.mono hw6.size)⟩
theorem bounds_walk (r : Rg) (hr : r.Ok) (off ctx : Int) (w : World) (hG : Glob w) :
    Calls Tryd.prog 7 #[r.v, .int .i64 off, .int .i64 ctx] w fun e w' => e = .returned (.bool true) ∧ Below w.heap.size w w' := by
  obtain ⟨rs, rl, rg⟩ := r
  have hg : rg < 4294967296 := hr.great
  cases rs with
  | false => exact bounds_e0 rl rg off ctx w hG
  | true =>
    by_cases h1 : (rg : Int) < (rl : Int)
    · exact bounds_e1 rl rg off ctx w hG h1
    by_cases h2 : off < -32768
    · exact bounds_e2 rl rg off ctx w hG h1 h2
    by_cases h3 : 32767 < off
    · exact bounds_e3 rl rg off ctx w hG h1 h2 h3
    by_cases h4 : ctx < 0
    · exact bounds_e4 rl rg off ctx w hG h1 h2 h3 h4
    by_cases h5 : 256 < ctx
    · exact bounds_e5 rl rg off ctx w hG h1 h2 h3 h4 h5
    exact bounds_main rl rg off ctx w hG hg h1 h2 h3 h4 h5
end Go.Proofs.YtodkehpldlmgaaaDoor
