/- Two ways that meet. -/
import Derived.Test.YtodkehpldlmgaaaDoorZq7
import Derived.Deep.Cut
namespace Go.Proofs.YtodkehpldlmgaaaDoor
open Go.RowKit

def waysP (a b : Nat) (d1 d2 : Int) : List Ins := [⟨23, 0, 0, 0, 0⟩, ⟨20, 0, 0, 2, 7⟩, ⟨1, d1, 0, 0, a⟩, ⟨19, 0, 0, 1, 0⟩, ⟨1, d2, 0, 0, b⟩, ⟨24, 0, 0, 0, 0⟩]
def waysR (a b : Nat) (d1 d2 : Int) : Option Rg := match aheadE 6 0 (waysP a b d1 d2) 0 startW with
  | .ok ws => some ((ws 5).r 6)
  | .error _ => none
set_option maxRecDepth 100000 in
theorem ways_0 (a b : Nat) : waysR a b 6 6 = some (fromR (min a b) (max a b)) := by kernel_rfl
set_option maxRecDepth 100000 in
theorem ways_e0 (a b : Nat) : knownE 0 (waysP a b 6 6) = 0 := by kernel_rfl
set_option maxRecDepth 100000 in
theorem ways_1 (a b : Nat) : waysR a b 7 6 = some (noR) := by kernel_rfl
set_option maxRecDepth 100000 in
theorem ways_e1 (a b : Nat) : knownE 0 (waysP a b 7 6) = 0 := by kernel_rfl
set_option maxRecDepth 100000 in
theorem ways_2 (a b : Nat) : waysR a b 6 8 = some (noR) := by kernel_rfl
set_option maxRecDepth 100000 in
theorem ways_e2 (a b : Nat) : knownE 0 (waysP a b 6 8) = 0 := by kernel_rfl
set_option maxRecDepth 100000 in
theorem ways_3 (a b : Nat) : waysR a b 7 8 = some (noR) := by kernel_rfl
set_option maxRecDepth 100000 in
theorem ways_e3 (a b : Nat) : knownE 0 (waysP a b 7 8) = 0 := by kernel_rfl
theorem waysP_len (a b : Nat) (d1 d2 : Int) : (waysP a b d1 d2).length = 6 := rfl
theorem waysP_imm (a b : Nat) (d1 d2 : Int) (ha : a < 4294967296) (hb : b < 4294967296) : ∀ i, i ∈ waysP a b d1 d2 → i.imm < 4294967296 := fun i hi => by
  simp only [waysP, List.mem_cons, List.not_mem_nil, or_false] at hi
  rcases hi with rfl | rfl | rfl | rfl | rfl | rfl
  · decide
  · decide
  · exact ha
  · show 0 < 4294967296; decide
  · exact hb
  · decide
set_option maxHeartbeats 1000000 in
theorem insf_any (op dst imm : Int) (w : World) :
    Calls Tryd.prog 24 #[.int .i64 op, .int .i64 dst, .int .u32 imm] w fun e w' => e = .returned (.agg #[.int .i64 op, .int .i64 dst, .int .i64 0, .int .i64 0, .int .u32 imm]) ∧ Below w.heap.size w w' := by
  go_enter Tryd.func24, Tryd.ntmps24
  go_wp2
  exact bodyPost_ret (v := .agg #[.int .i64 op, .int .i64 dst, .int .i64 0, .int .i64 0, .int .u32 imm]) (by simp [results, Tryd.results24, go_sem]) rfl ⟨rfl, (Below.refl _ _).alloc (Nat.le_refl _) _⟩
set_option maxRecDepth 10000 in
set_option maxHeartbeats 4000000 in
theorem ways_tt (a b : Nat) (w : World) (hG : Glob w) (ha : a < 4294967296) (hb : b < 4294967296) :
    Calls Tryd.prog 11 #[.int .u32 (a : Int), .int .u32 (b : Int), .agg #[.bool true, .bool true]] w fun e w' => e = .returned (.bool true) ∧ Below w.heap.size w w' := by
  have hbox0 : Has (w.alloc (.cells #[.bool true, .bool true] 69)) w.heap.size #[.bool true, .bool true] 69 := has_new _ _ _ _ rfl
  have hB0 : Below w.heap.size w (w.alloc (.cells #[.bool true, .bool true] 69)) := (Below.refl _ _).alloc (Nat.le_refl _) _
  go_enter Tryd.func11, Tryd.ntmps11
  go_upto_region 3 with (go_at_call 24; refine (insf_any _ _ _ _).mono ?_; rintro e W1 ⟨rfl, hB1⟩; replace hB0 := hB0.trans (hB1.mono hB0.size); replace hbox0 := hbox0.below hB1 hbox0.lt; clear hB1)
  refine named2 (p := fun X => Code.wp _ _ _ _ X) ?_
  intro W3 hW3
  have hsl : Has W3 W1.heap.size #[.int .i64 23, .int .i64 0, .int .i64 0, .int .i64 0, .int .u32 0, .int .i64 20, .int .i64 0, .int .i64 0, .int .i64 2, .int .u32 7, .int .i64 1, .int .i64 6, .int .i64 0, .int .i64 0, .int .u32 (a : Int), .int .i64 19, .int .i64 0, .int .i64 0, .int .i64 1, .int .u32 0, .int .i64 1, .int .i64 6, .int .i64 0, .int .i64 0, .int .u32 (b : Int), .int .i64 24, .int .i64 0, .int .i64 0, .int .i64 0, .int .u32 0] 38 := by rw [hW3]; exact has_old (has_new _ _ _ _ rfl)
  have hpb : Has W3 (W1.heap.size + 1) #[.int .i64 0, .slice (some ⟨W1.heap.size, 0, none⟩) 6 6] 24 := by rw [hW3]; exact has_new _ _ _ _ (by simp)
  have hB13 : Below W1.heap.size W1 W3 := by rw [hW3]; exact ((Below.refl _ _).alloc (Nat.le_refl _) _).alloc (by simp) _
  have hbox := hbox0.below hB13 hbox0.lt
  have hB3 := hB0.trans (hB13.mono hB0.size)
  have hle := hbox0.lt
  clear hW3 hbox0 hB0 hB13
  generalize W1.heap.size = bs at *
  have c0 : W3.cell? ⟨w.heap.size, 0, none⟩ = some (.bool true) := hbox.cell 0
  have p1 : W3.cell? ⟨bs + 1, 1, none⟩ = some (.slice (some ⟨bs, 0, none⟩) 6 6) := hpb.cell 1
  go_upto_region 5 with fail
  clear c0
  have c0 : W3.cell? ⟨w.heap.size, 1, none⟩ = some (.bool true) := hbox.cell 1
  go_upto_region 7 with fail
  clear c0 p1
  have hP : Prg W3 (.slice (some ⟨bs, 0, none⟩) 6 6) (waysP a b 6 6) := prg_has hsl (by kernel_rfl) 6 rfl
  have hG3 : Glob W3 := hG.below hB3 hG.size
  have hkn := known_any 0 _ _ W3 hG3 hP (by show 6 ≤ 1000000000; decide) (waysP_imm a b 6 6 ha hb)
  rw [ways_e0, waysP_len] at hkn
  have HG : Hid (Glob w) := hG
  have c0 : W3.cell? ⟨bs + 1, 0, none⟩ = some (.int .i64 0) := hpb.cell 0
  have c1 : W3.cell? ⟨bs + 1, 1, none⟩ = some (.slice (some ⟨bs, 0, none⟩) 6 6) := hpb.cell 1
  clear hP hG3 hG hpb hsl
  go_upto_region 8 with (go_at_call 13; refine hkn.mono ?_; rintro e W6 ⟨v, rfl, hok, hv2, hB6⟩; clear hkn hv2)
  clear c0 c1
  have hbox6 := hbox.below hB6 hbox.lt
  have hB7 := hB3.trans (hB6.mono hB3.size)
  obtain ⟨ws, hws, g, cap, rfl, hcap, hgl, hrow⟩ := hok (by trivial)
  have hr : (ws 5).r 6 = fromR (min a b) (max a b) := by
    have h := ways_0 a b
    unfold waysR at h
    rw [hws] at h
    exact Option.some.inj h
  have hk5 := hrow 5 (by decide)
  have k0 : W6.cell? ⟨g, 174, none⟩ = some (.bool ((ws 5).r 6).set) := hk5 19 _ rfl
  have k1 : W6.cell? ⟨g, 175, none⟩ = some (.int .u32 (((ws 5).r 6).least : Int)) := hk5 20 _ rfl
  have k2 : W6.cell? ⟨g, 176, none⟩ = some (.int .u32 (((ws 5).r 6).great : Int)) := hk5 21 _ rfl
  rw [hr] at k0 k1 k2
  clear hr hk5 hrow hws hok hB6 hbox hB3
  have km : (fromR (min a b) (max a b)).set = true := rfl
  have kl : (fromR (min a b) (max a b)).least = min a b := rfl
  have kg : (fromR (min a b) (max a b)).great = max a b := rfl
  rw [km] at k0
  rw [kl] at k1
  rw [kg] at k2
  clear km kl kg
  have d0 : W6.cell? ⟨w.heap.size, 0, none⟩ = some (.bool true) := hbox6.cell 0
  have d1 : W6.cell? ⟨w.heap.size, 1, none⟩ = some (.bool true) := hbox6.cell 1
  have hlb := hbox6.lt
  have HB7 : Hid (Below w.heap.size w W6) := hB7
  clear hB7 hbox6
  go_upto_region 11 with fail
  clear k0 k1 k2
  refine named2 (p := fun X => Code.wp _ _ _ _ X) ?_
  intro W7 hW7
  have h11 : Has W7 W6.heap.size #[.bool true, .int .u32 ((min a b : Nat) : Int), .int .u32 ((max a b : Nat) : Int)] 40 := by rw [hW7]; exact has_new _ _ _ _ rfl
  have hB67 : Below W6.heap.size W6 W7 := by rw [hW7]; exact (Below.refl _ _).alloc (Nat.le_refl _) _
  have g0 : W7.cell? ⟨w.heap.size, 0, none⟩ = some (.bool true) := (hB67.cell (p := ⟨w.heap.size, 0, none⟩) hlb).trans d0
  have g1 : W7.cell? ⟨w.heap.size, 1, none⟩ = some (.bool true) := (hB67.cell (p := ⟨w.heap.size, 1, none⟩) hlb).trans d1
  have hB8 := HB7.out.trans (hB67.mono HB7.out.size)
  have hkn := knownl_any W7 (HG.out.below hB8 HG.out.size)
  have HB8 : Hid (Below w.heap.size w W7) := hB8
  clear hW7 d0 d1 hB67 hB8 HB7 hgl hcap hle
  generalize W6.heap.size = b11 at *
  have k0 : W7.cell? ⟨b11, 0, none⟩ = some (.bool true) := h11.cell 0
  have k1 : W7.cell? ⟨b11, 1, none⟩ = some (.int .u32 ((min a b : Nat) : Int)) := h11.cell 1
  have k2 : W7.cell? ⟨b11, 2, none⟩ = some (.int .u32 ((max a b : Nat) : Int)) := h11.cell 2
  clear h11
  go_wp2_with (go_at_call 12; refine hkn.mono ?_; rintro e W8 ⟨rfl, hB9⟩)
  all_goals go_ret
  all_goals exact ⟨rfl, HB8.out.trans (hB9.mono HB8.out.size)⟩
set_option maxRecDepth 10000 in
set_option maxHeartbeats 4000000 in
theorem ways_ft (a b : Nat) (w : World) (hG : Glob w) (ha : a < 4294967296) (hb : b < 4294967296) :
    Calls Tryd.prog 11 #[.int .u32 (a : Int), .int .u32 (b : Int), .agg #[.bool false, .bool true]] w fun e w' => e = .returned (.bool true) ∧ Below w.heap.size w w' := by
  have hbox0 : Has (w.alloc (.cells #[.bool false, .bool true] 69)) w.heap.size #[.bool false, .bool true] 69 := has_new _ _ _ _ rfl
  have hB0 : Below w.heap.size w (w.alloc (.cells #[.bool false, .bool true] 69)) := (Below.refl _ _).alloc (Nat.le_refl _) _
  go_enter Tryd.func11, Tryd.ntmps11
  go_upto_region 3 with (go_at_call 24; refine (insf_any _ _ _ _).mono ?_; rintro e W1 ⟨rfl, hB1⟩; replace hB0 := hB0.trans (hB1.mono hB0.size); replace hbox0 := hbox0.below hB1 hbox0.lt; clear hB1)
  refine named2 (p := fun X => Code.wp _ _ _ _ X) ?_
  intro W3 hW3
  have hsl : Has W3 W1.heap.size #[.int .i64 23, .int .i64 0, .int .i64 0, .int .i64 0, .int .u32 0, .int .i64 20, .int .i64 0, .int .i64 0, .int .i64 2, .int .u32 7, .int .i64 1, .int .i64 6, .int .i64 0, .int .i64 0, .int .u32 (a : Int), .int .i64 19, .int .i64 0, .int .i64 0, .int .i64 1, .int .u32 0, .int .i64 1, .int .i64 6, .int .i64 0, .int .i64 0, .int .u32 (b : Int), .int .i64 24, .int .i64 0, .int .i64 0, .int .i64 0, .int .u32 0] 38 := by rw [hW3]; exact has_old (has_new _ _ _ _ rfl)
  have hpb : Has W3 (W1.heap.size + 1) #[.int .i64 0, .slice (some ⟨W1.heap.size, 0, none⟩) 6 6] 24 := by rw [hW3]; exact has_new _ _ _ _ (by simp)
  have hB13 : Below W1.heap.size W1 W3 := by rw [hW3]; exact ((Below.refl _ _).alloc (Nat.le_refl _) _).alloc (by simp) _
  have hbox := hbox0.below hB13 hbox0.lt
  have hB3 := hB0.trans (hB13.mono hB0.size)
  have hle := hbox0.lt
  clear hW3 hbox0 hB0 hB13
  generalize W1.heap.size = bs at *
  have c0 : W3.cell? ⟨w.heap.size, 0, none⟩ = some (.bool false) := hbox.cell 0
  have p1 : W3.cell? ⟨bs + 1, 1, none⟩ = some (.slice (some ⟨bs, 0, none⟩) 6 6) := hpb.cell 1
  have q0 : W3.cell? ⟨bs, 11, none⟩ = some (.int .i64 6) := hsl.cell 11
  have f0 : W3.frozen? ⟨bs, 11, none⟩ = false := hsl.free 11
  have hs2 : Has (W3.setCell ⟨bs, 11, none⟩ (.int .i64 7)) bs #[.int .i64 23, .int .i64 0, .int .i64 0, .int .i64 0, .int .u32 0, .int .i64 20, .int .i64 0, .int .i64 0, .int .i64 2, .int .u32 7, .int .i64 1, .int .i64 7, .int .i64 0, .int .i64 0, .int .u32 (a : Int), .int .i64 19, .int .i64 0, .int .i64 0, .int .i64 1, .int .u32 0, .int .i64 1, .int .i64 6, .int .i64 0, .int .i64 0, .int .u32 (b : Int), .int .i64 24, .int .i64 0, .int .i64 0, .int .i64 0, .int .u32 0] 38 := hsl.set 11 (.int .i64 7)
  have hE : Ex bs W3 (W3.setCell ⟨bs, 11, none⟩ (.int .i64 7)) := Ex.set _ _ _ _
  have hb2 := hbox.ex hE (by omega)
  have hp2 := hpb.ex hE (by omega)
  have hB2 := Below.ex hB3 hB3.size hE (by omega)
  clear hE
  go_upto_region 5 with fail
  clear q0 f0 hsl hbox hpb hB3 c0 p1
  have hsl := hs2
  have hbox := hb2
  have hpb := hp2
  have hB3 := hB2
  clear hs2 hb2 hp2 hB2
  generalize W3.setCell ⟨bs, 11, none⟩ (.int .i64 7) = W4 at *
  have p1 : W4.cell? ⟨bs + 1, 1, none⟩ = some (.slice (some ⟨bs, 0, none⟩) 6 6) := hpb.cell 1
  have c0 : W4.cell? ⟨w.heap.size, 1, none⟩ = some (.bool true) := hbox.cell 1
  go_upto_region 7 with fail
  clear c0 p1
  have hP : Prg W4 (.slice (some ⟨bs, 0, none⟩) 6 6) (waysP a b 7 6) := prg_has hsl (by kernel_rfl) 6 rfl
  have hG3 : Glob W4 := hG.below hB3 hG.size
  have hkn := known_any 0 _ _ W4 hG3 hP (by show 6 ≤ 1000000000; decide) (waysP_imm a b 7 6 ha hb)
  rw [ways_e1, waysP_len] at hkn
  have HG : Hid (Glob w) := hG
  have c0 : W4.cell? ⟨bs + 1, 0, none⟩ = some (.int .i64 0) := hpb.cell 0
  have c1 : W4.cell? ⟨bs + 1, 1, none⟩ = some (.slice (some ⟨bs, 0, none⟩) 6 6) := hpb.cell 1
  clear hP hG3 hG hpb hsl
  go_upto_region 8 with (go_at_call 13; refine hkn.mono ?_; rintro e W6 ⟨v, rfl, hok, hv2, hB6⟩; clear hkn hv2)
  clear c0 c1
  have hbox6 := hbox.below hB6 hbox.lt
  have hB7 := hB3.trans (hB6.mono hB3.size)
  obtain ⟨ws, hws, g, cap, rfl, hcap, hgl, hrow⟩ := hok (by trivial)
  have hr : (ws 5).r 6 = noR := by
    have h := ways_1 a b
    unfold waysR at h
    rw [hws] at h
    exact Option.some.inj h
  have hk5 := hrow 5 (by decide)
  have k0 : W6.cell? ⟨g, 174, none⟩ = some (.bool ((ws 5).r 6).set) := hk5 19 _ rfl
  have k1 : W6.cell? ⟨g, 175, none⟩ = some (.int .u32 (((ws 5).r 6).least : Int)) := hk5 20 _ rfl
  have k2 : W6.cell? ⟨g, 176, none⟩ = some (.int .u32 (((ws 5).r 6).great : Int)) := hk5 21 _ rfl
  rw [hr] at k0 k1 k2
  clear hr hk5 hrow hws hok hB6 hbox hB3
  have km : noR.set = false := rfl
  have kl : noR.least = 0 := rfl
  have kg : noR.great = 0 := rfl
  rw [km] at k0
  rw [kl] at k1
  rw [kg] at k2
  clear km kl kg
  have d0 : W6.cell? ⟨w.heap.size, 0, none⟩ = some (.bool false) := hbox6.cell 0
  have d1 : W6.cell? ⟨w.heap.size, 1, none⟩ = some (.bool true) := hbox6.cell 1
  have hlb := hbox6.lt
  have HB7 : Hid (Below w.heap.size w W6) := hB7
  clear hB7 hbox6
  go_upto_region 11 with fail
  clear k0 k1 k2
  refine named2 (p := fun X => Code.wp _ _ _ _ X) ?_
  intro W7 hW7
  have h11 : Has W7 W6.heap.size #[.bool false, .int .u32 (0 : Int), .int .u32 (0 : Int)] 40 := by rw [hW7]; exact has_new _ _ _ _ rfl
  have hB67 : Below W6.heap.size W6 W7 := by rw [hW7]; exact (Below.refl _ _).alloc (Nat.le_refl _) _
  have g0 : W7.cell? ⟨w.heap.size, 0, none⟩ = some (.bool false) := (hB67.cell (p := ⟨w.heap.size, 0, none⟩) hlb).trans d0
  have g1 : W7.cell? ⟨w.heap.size, 1, none⟩ = some (.bool true) := (hB67.cell (p := ⟨w.heap.size, 1, none⟩) hlb).trans d1
  have hB8 := HB7.out.trans (hB67.mono HB7.out.size)
  have hkn := knownl_any W7 (HG.out.below hB8 HG.out.size)
  have HB8 : Hid (Below w.heap.size w W7) := hB8
  clear hW7 d0 d1 hB67 hB8 HB7 hgl hcap hle
  generalize W6.heap.size = b11 at *
  have k0 : W7.cell? ⟨b11, 0, none⟩ = some (.bool false) := h11.cell 0
  have k1 : W7.cell? ⟨b11, 1, none⟩ = some (.int .u32 (0 : Int)) := h11.cell 1
  have k2 : W7.cell? ⟨b11, 2, none⟩ = some (.int .u32 (0 : Int)) := h11.cell 2
  clear h11
  go_wp2_with (go_at_call 12; refine hkn.mono ?_; rintro e W8 ⟨rfl, hB9⟩)
  all_goals go_ret
  all_goals exact ⟨rfl, HB8.out.trans (hB9.mono HB8.out.size)⟩
set_option maxRecDepth 10000 in
set_option maxHeartbeats 4000000 in
theorem ways_tf (a b : Nat) (w : World) (hG : Glob w) (ha : a < 4294967296) (hb : b < 4294967296) :
    Calls Tryd.prog 11 #[.int .u32 (a : Int), .int .u32 (b : Int), .agg #[.bool true, .bool false]] w fun e w' => e = .returned (.bool true) ∧ Below w.heap.size w w' := by
  have hbox0 : Has (w.alloc (.cells #[.bool true, .bool false] 69)) w.heap.size #[.bool true, .bool false] 69 := has_new _ _ _ _ rfl
  have hB0 : Below w.heap.size w (w.alloc (.cells #[.bool true, .bool false] 69)) := (Below.refl _ _).alloc (Nat.le_refl _) _
  go_enter Tryd.func11, Tryd.ntmps11
  go_upto_region 3 with (go_at_call 24; refine (insf_any _ _ _ _).mono ?_; rintro e W1 ⟨rfl, hB1⟩; replace hB0 := hB0.trans (hB1.mono hB0.size); replace hbox0 := hbox0.below hB1 hbox0.lt; clear hB1)
  refine named2 (p := fun X => Code.wp _ _ _ _ X) ?_
  intro W3 hW3
  have hsl : Has W3 W1.heap.size #[.int .i64 23, .int .i64 0, .int .i64 0, .int .i64 0, .int .u32 0, .int .i64 20, .int .i64 0, .int .i64 0, .int .i64 2, .int .u32 7, .int .i64 1, .int .i64 6, .int .i64 0, .int .i64 0, .int .u32 (a : Int), .int .i64 19, .int .i64 0, .int .i64 0, .int .i64 1, .int .u32 0, .int .i64 1, .int .i64 6, .int .i64 0, .int .i64 0, .int .u32 (b : Int), .int .i64 24, .int .i64 0, .int .i64 0, .int .i64 0, .int .u32 0] 38 := by rw [hW3]; exact has_old (has_new _ _ _ _ rfl)
  have hpb : Has W3 (W1.heap.size + 1) #[.int .i64 0, .slice (some ⟨W1.heap.size, 0, none⟩) 6 6] 24 := by rw [hW3]; exact has_new _ _ _ _ (by simp)
  have hB13 : Below W1.heap.size W1 W3 := by rw [hW3]; exact ((Below.refl _ _).alloc (Nat.le_refl _) _).alloc (by simp) _
  have hbox := hbox0.below hB13 hbox0.lt
  have hB3 := hB0.trans (hB13.mono hB0.size)
  have hle := hbox0.lt
  clear hW3 hbox0 hB0 hB13
  generalize W1.heap.size = bs at *
  have c0 : W3.cell? ⟨w.heap.size, 0, none⟩ = some (.bool true) := hbox.cell 0
  have p1 : W3.cell? ⟨bs + 1, 1, none⟩ = some (.slice (some ⟨bs, 0, none⟩) 6 6) := hpb.cell 1
  go_upto_region 5 with fail
  clear c0
  have c0 : W3.cell? ⟨w.heap.size, 1, none⟩ = some (.bool false) := hbox.cell 1
  have q0 : W3.cell? ⟨bs, 21, none⟩ = some (.int .i64 6) := hsl.cell 21
  have f0 : W3.frozen? ⟨bs, 21, none⟩ = false := hsl.free 21
  have hs2 : Has (W3.setCell ⟨bs, 21, none⟩ (.int .i64 8)) bs #[.int .i64 23, .int .i64 0, .int .i64 0, .int .i64 0, .int .u32 0, .int .i64 20, .int .i64 0, .int .i64 0, .int .i64 2, .int .u32 7, .int .i64 1, .int .i64 6, .int .i64 0, .int .i64 0, .int .u32 (a : Int), .int .i64 19, .int .i64 0, .int .i64 0, .int .i64 1, .int .u32 0, .int .i64 1, .int .i64 8, .int .i64 0, .int .i64 0, .int .u32 (b : Int), .int .i64 24, .int .i64 0, .int .i64 0, .int .i64 0, .int .u32 0] 38 := hsl.set 21 (.int .i64 8)
  have hE : Ex bs W3 (W3.setCell ⟨bs, 21, none⟩ (.int .i64 8)) := Ex.set _ _ _ _
  have hb2 := hbox.ex hE (by omega)
  have hp2 := hpb.ex hE (by omega)
  have hB2 := Below.ex hB3 hB3.size hE (by omega)
  clear hE
  go_upto_region 7 with fail
  clear q0 f0 hsl hbox hpb hB3 c0 p1
  have hsl := hs2
  have hbox := hb2
  have hpb := hp2
  have hB3 := hB2
  clear hs2 hb2 hp2 hB2
  generalize W3.setCell ⟨bs, 21, none⟩ (.int .i64 8) = W5 at *
  have hP : Prg W5 (.slice (some ⟨bs, 0, none⟩) 6 6) (waysP a b 6 8) := prg_has hsl (by kernel_rfl) 6 rfl
  have hG3 : Glob W5 := hG.below hB3 hG.size
  have hkn := known_any 0 _ _ W5 hG3 hP (by show 6 ≤ 1000000000; decide) (waysP_imm a b 6 8 ha hb)
  rw [ways_e2, waysP_len] at hkn
  have HG : Hid (Glob w) := hG
  have c0 : W5.cell? ⟨bs + 1, 0, none⟩ = some (.int .i64 0) := hpb.cell 0
  have c1 : W5.cell? ⟨bs + 1, 1, none⟩ = some (.slice (some ⟨bs, 0, none⟩) 6 6) := hpb.cell 1
  clear hP hG3 hG hpb hsl
  go_upto_region 8 with (go_at_call 13; refine hkn.mono ?_; rintro e W6 ⟨v, rfl, hok, hv2, hB6⟩; clear hkn hv2)
  clear c0 c1
  have hbox6 := hbox.below hB6 hbox.lt
  have hB7 := hB3.trans (hB6.mono hB3.size)
  obtain ⟨ws, hws, g, cap, rfl, hcap, hgl, hrow⟩ := hok (by trivial)
  have hr : (ws 5).r 6 = noR := by
    have h := ways_2 a b
    unfold waysR at h
    rw [hws] at h
    exact Option.some.inj h
  have hk5 := hrow 5 (by decide)
  have k0 : W6.cell? ⟨g, 174, none⟩ = some (.bool ((ws 5).r 6).set) := hk5 19 _ rfl
  have k1 : W6.cell? ⟨g, 175, none⟩ = some (.int .u32 (((ws 5).r 6).least : Int)) := hk5 20 _ rfl
  have k2 : W6.cell? ⟨g, 176, none⟩ = some (.int .u32 (((ws 5).r 6).great : Int)) := hk5 21 _ rfl
  rw [hr] at k0 k1 k2
  clear hr hk5 hrow hws hok hB6 hbox hB3
  have km : noR.set = false := rfl
  have kl : noR.least = 0 := rfl
  have kg : noR.great = 0 := rfl
  rw [km] at k0
  rw [kl] at k1
  rw [kg] at k2
  clear km kl kg
  have d0 : W6.cell? ⟨w.heap.size, 0, none⟩ = some (.bool true) := hbox6.cell 0
  have d1 : W6.cell? ⟨w.heap.size, 1, none⟩ = some (.bool false) := hbox6.cell 1
  have hlb := hbox6.lt
  have HB7 : Hid (Below w.heap.size w W6) := hB7
  clear hB7 hbox6
  go_upto_region 11 with fail
  clear k0 k1 k2
  refine named2 (p := fun X => Code.wp _ _ _ _ X) ?_
  intro W7 hW7
  have h11 : Has W7 W6.heap.size #[.bool false, .int .u32 (0 : Int), .int .u32 (0 : Int)] 40 := by rw [hW7]; exact has_new _ _ _ _ rfl
  have hB67 : Below W6.heap.size W6 W7 := by rw [hW7]; exact (Below.refl _ _).alloc (Nat.le_refl _) _
  have g0 : W7.cell? ⟨w.heap.size, 0, none⟩ = some (.bool true) := (hB67.cell (p := ⟨w.heap.size, 0, none⟩) hlb).trans d0
  have g1 : W7.cell? ⟨w.heap.size, 1, none⟩ = some (.bool false) := (hB67.cell (p := ⟨w.heap.size, 1, none⟩) hlb).trans d1
  have hB8 := HB7.out.trans (hB67.mono HB7.out.size)
  have hkn := knownl_any W7 (HG.out.below hB8 HG.out.size)
  have HB8 : Hid (Below w.heap.size w W7) := hB8
  clear hW7 d0 d1 hB67 hB8 HB7 hgl hcap hle
  generalize W6.heap.size = b11 at *
  have k0 : W7.cell? ⟨b11, 0, none⟩ = some (.bool false) := h11.cell 0
  have k1 : W7.cell? ⟨b11, 1, none⟩ = some (.int .u32 (0 : Int)) := h11.cell 1
  have k2 : W7.cell? ⟨b11, 2, none⟩ = some (.int .u32 (0 : Int)) := h11.cell 2
  clear h11
  go_wp2_with (go_at_call 12; refine hkn.mono ?_; rintro e W8 ⟨rfl, hB9⟩)
  all_goals go_ret
  all_goals exact ⟨rfl, HB8.out.trans (hB9.mono HB8.out.size)⟩
set_option maxRecDepth 10000 in
set_option maxHeartbeats 4000000 in
theorem ways_ff (a b : Nat) (w : World) (hG : Glob w) (ha : a < 4294967296) (hb : b < 4294967296) :
    Calls Tryd.prog 11 #[.int .u32 (a : Int), .int .u32 (b : Int), .agg #[.bool false, .bool false]] w fun e w' => e = .returned (.bool true) ∧ Below w.heap.size w w' := by
  have hbox0 : Has (w.alloc (.cells #[.bool false, .bool false] 69)) w.heap.size #[.bool false, .bool false] 69 := has_new _ _ _ _ rfl
  have hB0 : Below w.heap.size w (w.alloc (.cells #[.bool false, .bool false] 69)) := (Below.refl _ _).alloc (Nat.le_refl _) _
  go_enter Tryd.func11, Tryd.ntmps11
  go_upto_region 3 with (go_at_call 24; refine (insf_any _ _ _ _).mono ?_; rintro e W1 ⟨rfl, hB1⟩; replace hB0 := hB0.trans (hB1.mono hB0.size); replace hbox0 := hbox0.below hB1 hbox0.lt; clear hB1)
  refine named2 (p := fun X => Code.wp _ _ _ _ X) ?_
  intro W3 hW3
  have hsl : Has W3 W1.heap.size #[.int .i64 23, .int .i64 0, .int .i64 0, .int .i64 0, .int .u32 0, .int .i64 20, .int .i64 0, .int .i64 0, .int .i64 2, .int .u32 7, .int .i64 1, .int .i64 6, .int .i64 0, .int .i64 0, .int .u32 (a : Int), .int .i64 19, .int .i64 0, .int .i64 0, .int .i64 1, .int .u32 0, .int .i64 1, .int .i64 6, .int .i64 0, .int .i64 0, .int .u32 (b : Int), .int .i64 24, .int .i64 0, .int .i64 0, .int .i64 0, .int .u32 0] 38 := by rw [hW3]; exact has_old (has_new _ _ _ _ rfl)
  have hpb : Has W3 (W1.heap.size + 1) #[.int .i64 0, .slice (some ⟨W1.heap.size, 0, none⟩) 6 6] 24 := by rw [hW3]; exact has_new _ _ _ _ (by simp)
  have hB13 : Below W1.heap.size W1 W3 := by rw [hW3]; exact ((Below.refl _ _).alloc (Nat.le_refl _) _).alloc (by simp) _
  have hbox := hbox0.below hB13 hbox0.lt
  have hB3 := hB0.trans (hB13.mono hB0.size)
  have hle := hbox0.lt
  clear hW3 hbox0 hB0 hB13
  generalize W1.heap.size = bs at *
  have c0 : W3.cell? ⟨w.heap.size, 0, none⟩ = some (.bool false) := hbox.cell 0
  have p1 : W3.cell? ⟨bs + 1, 1, none⟩ = some (.slice (some ⟨bs, 0, none⟩) 6 6) := hpb.cell 1
  have q0 : W3.cell? ⟨bs, 11, none⟩ = some (.int .i64 6) := hsl.cell 11
  have f0 : W3.frozen? ⟨bs, 11, none⟩ = false := hsl.free 11
  have hs2 : Has (W3.setCell ⟨bs, 11, none⟩ (.int .i64 7)) bs #[.int .i64 23, .int .i64 0, .int .i64 0, .int .i64 0, .int .u32 0, .int .i64 20, .int .i64 0, .int .i64 0, .int .i64 2, .int .u32 7, .int .i64 1, .int .i64 7, .int .i64 0, .int .i64 0, .int .u32 (a : Int), .int .i64 19, .int .i64 0, .int .i64 0, .int .i64 1, .int .u32 0, .int .i64 1, .int .i64 6, .int .i64 0, .int .i64 0, .int .u32 (b : Int), .int .i64 24, .int .i64 0, .int .i64 0, .int .i64 0, .int .u32 0] 38 := hsl.set 11 (.int .i64 7)
  have hE : Ex bs W3 (W3.setCell ⟨bs, 11, none⟩ (.int .i64 7)) := Ex.set _ _ _ _
  have hb2 := hbox.ex hE (by omega)
  have hp2 := hpb.ex hE (by omega)
  have hB2 := Below.ex hB3 hB3.size hE (by omega)
  clear hE
  go_upto_region 5 with fail
  clear q0 f0 hsl hbox hpb hB3 c0 p1
  have hsl := hs2
  have hbox := hb2
  have hpb := hp2
  have hB3 := hB2
  clear hs2 hb2 hp2 hB2
  generalize W3.setCell ⟨bs, 11, none⟩ (.int .i64 7) = W4 at *
  have p1 : W4.cell? ⟨bs + 1, 1, none⟩ = some (.slice (some ⟨bs, 0, none⟩) 6 6) := hpb.cell 1
  have c0 : W4.cell? ⟨w.heap.size, 1, none⟩ = some (.bool false) := hbox.cell 1
  have q0 : W4.cell? ⟨bs, 21, none⟩ = some (.int .i64 6) := hsl.cell 21
  have f0 : W4.frozen? ⟨bs, 21, none⟩ = false := hsl.free 21
  have hs2 : Has (W4.setCell ⟨bs, 21, none⟩ (.int .i64 8)) bs #[.int .i64 23, .int .i64 0, .int .i64 0, .int .i64 0, .int .u32 0, .int .i64 20, .int .i64 0, .int .i64 0, .int .i64 2, .int .u32 7, .int .i64 1, .int .i64 7, .int .i64 0, .int .i64 0, .int .u32 (a : Int), .int .i64 19, .int .i64 0, .int .i64 0, .int .i64 1, .int .u32 0, .int .i64 1, .int .i64 8, .int .i64 0, .int .i64 0, .int .u32 (b : Int), .int .i64 24, .int .i64 0, .int .i64 0, .int .i64 0, .int .u32 0] 38 := hsl.set 21 (.int .i64 8)
  have hE : Ex bs W4 (W4.setCell ⟨bs, 21, none⟩ (.int .i64 8)) := Ex.set _ _ _ _
  have hb2 := hbox.ex hE (by omega)
  have hp2 := hpb.ex hE (by omega)
  have hB2 := Below.ex hB3 hB3.size hE (by omega)
  clear hE
  go_upto_region 7 with fail
  clear q0 f0 hsl hbox hpb hB3 c0 p1
  have hsl := hs2
  have hbox := hb2
  have hpb := hp2
  have hB3 := hB2
  clear hs2 hb2 hp2 hB2
  generalize W4.setCell ⟨bs, 21, none⟩ (.int .i64 8) = W5 at *
  have hP : Prg W5 (.slice (some ⟨bs, 0, none⟩) 6 6) (waysP a b 7 8) := prg_has hsl (by kernel_rfl) 6 rfl
  have hG3 : Glob W5 := hG.below hB3 hG.size
  have hkn := known_any 0 _ _ W5 hG3 hP (by show 6 ≤ 1000000000; decide) (waysP_imm a b 7 8 ha hb)
  rw [ways_e3, waysP_len] at hkn
  have HG : Hid (Glob w) := hG
  have c0 : W5.cell? ⟨bs + 1, 0, none⟩ = some (.int .i64 0) := hpb.cell 0
  have c1 : W5.cell? ⟨bs + 1, 1, none⟩ = some (.slice (some ⟨bs, 0, none⟩) 6 6) := hpb.cell 1
  clear hP hG3 hG hpb hsl
  go_upto_region 8 with (go_at_call 13; refine hkn.mono ?_; rintro e W6 ⟨v, rfl, hok, hv2, hB6⟩; clear hkn hv2)
  clear c0 c1
  have hbox6 := hbox.below hB6 hbox.lt
  have hB7 := hB3.trans (hB6.mono hB3.size)
  obtain ⟨ws, hws, g, cap, rfl, hcap, hgl, hrow⟩ := hok (by trivial)
  have hr : (ws 5).r 6 = noR := by
    have h := ways_3 a b
    unfold waysR at h
    rw [hws] at h
    exact Option.some.inj h
  have hk5 := hrow 5 (by decide)
  have k0 : W6.cell? ⟨g, 174, none⟩ = some (.bool ((ws 5).r 6).set) := hk5 19 _ rfl
  have k1 : W6.cell? ⟨g, 175, none⟩ = some (.int .u32 (((ws 5).r 6).least : Int)) := hk5 20 _ rfl
  have k2 : W6.cell? ⟨g, 176, none⟩ = some (.int .u32 (((ws 5).r 6).great : Int)) := hk5 21 _ rfl
  rw [hr] at k0 k1 k2
  clear hr hk5 hrow hws hok hB6 hbox hB3
  have km : noR.set = false := rfl
  have kl : noR.least = 0 := rfl
  have kg : noR.great = 0 := rfl
  rw [km] at k0
  rw [kl] at k1
  rw [kg] at k2
  clear km kl kg
  have d0 : W6.cell? ⟨w.heap.size, 0, none⟩ = some (.bool false) := hbox6.cell 0
  have d1 : W6.cell? ⟨w.heap.size, 1, none⟩ = some (.bool false) := hbox6.cell 1
  have hlb := hbox6.lt
  have HB7 : Hid (Below w.heap.size w W6) := hB7
  clear hB7 hbox6
  go_upto_region 11 with fail
  clear k0 k1 k2
  refine named2 (p := fun X => Code.wp _ _ _ _ X) ?_
  intro W7 hW7
  have h11 : Has W7 W6.heap.size #[.bool false, .int .u32 (0 : Int), .int .u32 (0 : Int)] 40 := by rw [hW7]; exact has_new _ _ _ _ rfl
  have hB67 : Below W6.heap.size W6 W7 := by rw [hW7]; exact (Below.refl _ _).alloc (Nat.le_refl _) _
  have g0 : W7.cell? ⟨w.heap.size, 0, none⟩ = some (.bool false) := (hB67.cell (p := ⟨w.heap.size, 0, none⟩) hlb).trans d0
  have g1 : W7.cell? ⟨w.heap.size, 1, none⟩ = some (.bool false) := (hB67.cell (p := ⟨w.heap.size, 1, none⟩) hlb).trans d1
  have hB8 := HB7.out.trans (hB67.mono HB7.out.size)
  have hkn := knownl_any W7 (HG.out.below hB8 HG.out.size)
  have HB8 : Hid (Below w.heap.size w W7) := hB8
  clear hW7 d0 d1 hB67 hB8 HB7 hgl hcap hle
  generalize W6.heap.size = b11 at *
  have k0 : W7.cell? ⟨b11, 0, none⟩ = some (.bool false) := h11.cell 0
  have k1 : W7.cell? ⟨b11, 1, none⟩ = some (.int .u32 (0 : Int)) := h11.cell 1
  have k2 : W7.cell? ⟨b11, 2, none⟩ = some (.int .u32 (0 : Int)) := h11.cell 2
  clear h11
  go_wp2_with (go_at_call 12; refine hkn.mono ?_; rintro e W8 ⟨rfl, hB9⟩)
  all_goals go_ret
  all_goals exact ⟨rfl, HB8.out.trans (hB9.mono HB8.out.size)⟩
theorem ways_walk (a b : Nat) (s0 s1 : Bool) (w : World) (hG : Glob w) (ha : a < 4294967296) (hb : b < 4294967296) :
    Calls Tryd.prog 11 #[.int .u32 (a : Int), .int .u32 (b : Int), .agg #[.bool s0, .bool s1]] w fun e w' => e = .returned (.bool true) ∧ Below w.heap.size w w' := by
  cases s0 <;> cases s1
  · exact ways_ff a b w hG ha hb
  · exact ways_ft a b w hG ha hb
  · exact ways_tf a b w hG ha hb
  · exact ways_tt a b w hG ha hb
end Go.Proofs.YtodkehpldlmgaaaDoor
