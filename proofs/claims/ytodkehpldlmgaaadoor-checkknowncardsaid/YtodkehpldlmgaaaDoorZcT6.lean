/- The document's Known. -/
import Derived.Test.YtodkehpldlmgaaaDoorZcT5
namespace Go.Proofs.YtodkehpldlmgaaaDoor
open Go.RowKit

/-- What Known answers. -/
def rkP (c : Int) (l : List Ins) (w : World) (e : Ending) (w' : World) : Prop :=
  ∃ v, e = .returned (.tuple #[v, .int .i64 (knownE c l)]) ∧ (knownE c l = 0 → ∃ ws, aheadE l.length c l 0 startW = .ok ws ∧ KnS w' v l.length ws) ∧ (knownE c l ≠ 0 → v = .slice none 0 0) ∧ Below w.heap.size w w'
theorem rkP_no {c : Int} {l : List Ins} {w w' : World} {E : Int} (h : knownE c l = E) (hE : E ≠ 0) (hB : Below w.heap.size w w') : rkP c l w (.returned (.tuple #[.slice none 0 0, .int .i64 E])) w' := by
  subst h
  exact ⟨_, rfl, (fun h => absurd h hE), fun _ => rfl, hB⟩
theorem errno_ne (x : Wrong) : x.errno ≠ 0 := by cases x <;> decide
theorem reach_of_op {i : Ins} {m : Nat} (h : i.op = (m : Int)) (h1 : 19 ≤ m) (h2 : m ≤ 22) : reachI i = 1 + i.off := by
  unfold reachI
  rw [if_neg (by omega), if_pos (by omega)]
theorem reach_one {i : Ins} {m : Nat} (h : i.op = (m : Int)) (h1 : m ≤ 18 ∨ m = 23) : reachI i = 1 := by
  unfold reachI
  rw [if_neg (by omega), if_neg (by omega)]
theorem reach_zero {i : Ins} (h : i.op = ((24 : Nat) : Int)) : reachI i = 0 := by
  exact if_pos h
theorem turn_astray {n : Nat} {c : Int} {k : Nat} {i : Ins} {ws : Nat → Kn} {p : Kn × Kn} (hc : (ws k).come = true) (ho : outI i c (ws k) = .ok p) (h : (n : Int) ≤ (k : Int) + reachI i) : turnE n c k i ws = .error none := by
  unfold turnE
  rw [if_neg (by rw [hc]; decide), ho]
  simp only
  rw [if_pos h]
theorem turn_on {n : Nat} {c : Int} {k : Nat} {i : Ins} {ws : Nat → Kn} {p : Kn × Kn} (hc : (ws k).come = true) (ho : outI i c (ws k) = .ok p) (h : ¬ (n : Int) ≤ (k : Int) + reachI i) : turnE n c k i ws = .ok (leadW (leadW ws (k + 1) p.1) (k + 1 + i.off.toNat) p.2) := by
  unfold turnE
  rw [if_neg (by rw [hc]; decide), ho]
  simp only
  rw [if_neg h]
theorem lead_none {ws : Nat → Kn} {k : Kn} (to : Nat) (h : k.come = false) : leadW ws to k = ws := if_neg (by rw [h]; decide)
theorem lead_some {ws : Nat → Kn} {k : Kn} (to : Nat) (h : k.come = true) : leadW ws to k = upd ws to (joinK (ws to) k) := if_pos h
theorem known_astray_is {c : Int} {l : List Ins} (h : chkE c l = 0) (h0 : l ≠ []) (ha : aheadE l.length c l 0 startW = .error none) : knownE c l = 164 := knownE_no h h0 ha
set_option maxRecDepth 10000 in
set_option maxHeartbeats 4000000 in
theorem rknown_bad (c : Int) (a : Option Addr) (cap : Nat) (l : List Ins) (w : World) (hP : Prg w (.slice a l.length cap) l) (hl : l.length ≤ 1000000000) (E : Int) (hEE : chkE c l = E) (hE : E ≠ 0) :
    Calls Tryd.prog 14 #[.agg #[.int .i64 c, .slice a l.length cap]] w fun e w' => e = .returned (.tuple #[.slice none 0 0, .int .i64 E]) ∧ Below w.heap.size w w' := by
  obtain ⟨W0, hW0⟩ : ∃ W0, W0 = w.alloc (.cells #[.int .i64 c, .slice a l.length cap] 24) := ⟨_, rfl⟩
  have hb0 : Has W0 w.heap.size #[.int .i64 c, .slice a l.length cap] 24 := by rw [hW0]; exact has_new _ _ _ _ rfl
  have hB0 : Below w.heap.size w W0 := by rw [hW0]; exact (Below.refl _ _).alloc (Nat.le_refl _) _
  have hck := rcheck_any c _ l W0 (hP.below hB0) hl
  rw [hEE] at hck
  have hE' : (E != 0) = true := by simpa using hE
  generalize l.length = n at *
  have c0 := hb0.cell 0
  have c1 := hb0.cell 1
  have HB0 : Hid (Below w.heap.size w W0) := hB0
  clear hP hl hEE hE hB0
  go_enter Tryd.func14, Tryd.ntmps14
  go_upto_region 1 with fail
  rw [← hW0]
  clear hW0
  go_wp2_with (go_at_call 29; refine hck.mono ?_; rintro e W1 ⟨rfl, hB1⟩; clear hck c0 c1)
  exact bodyPost_ret (v := .tuple #[.slice none 0 0, .int .i64 E]) (by simp [results, Tryd.results14, go_sem]) rfl ⟨rfl, HB0.out.trans (hB1.mono HB0.out.size)⟩
set_option maxRecDepth 10000 in
set_option maxHeartbeats 4000000 in
theorem rknown_empty (c : Int) (a : Option Addr) (cap : Nat) (w : World) (hP : Prg w (.slice a 0 cap) []) (hE : chkE c [] = 0) :
    Calls Tryd.prog 14 #[.agg #[.int .i64 c, .slice a 0 cap]] w fun e w' => e = .returned (.tuple #[.slice none 0 0, .int .i64 160]) ∧ Below w.heap.size w w' := by
  obtain ⟨W0, hW0⟩ : ∃ W0, W0 = w.alloc (.cells #[.int .i64 c, .slice a 0 cap] 24) := ⟨_, rfl⟩
  have hb0 : Has W0 w.heap.size #[.int .i64 c, .slice a 0 cap] 24 := by rw [hW0]; exact has_new _ _ _ _ rfl
  have hB0 : Below w.heap.size w W0 := by rw [hW0]; exact (Below.refl _ _).alloc (Nat.le_refl _) _
  have hck := rcheck_any c _ [] W0 (hP.below hB0) (by simp)
  rw [hE] at hck
  have c0 := hb0.cell 0
  have c1 := hb0.cell 1
  have HB0 : Hid (Below w.heap.size w W0) := hB0
  clear hP hE hB0
  go_enter Tryd.func14, Tryd.ntmps14
  go_upto_region 1 with fail
  rw [← hW0]
  clear hW0
  go_wp2_with (go_at_call 29; refine hck.mono ?_; rintro e W1 ⟨rfl, hB1⟩; clear hck c0 c1; have hb1 := hb0.below hB1 hb0.lt; have c0 := hb1.cell 0; have c1 := hb1.cell 1)
  exact bodyPost_ret (v := .tuple #[.slice none 0 0, .int .i64 160]) (by simp [results, Tryd.results14, go_sem]) rfl ⟨rfl, HB0.out.trans (hB1.mono HB0.out.size)⟩
set_option maxRecDepth 10000 in
set_option maxHeartbeats 16000000 in
theorem rknown_main (c : Int) (a : Option Addr) (cap : Nat) (l : List Ins) (w : World) (hP : Prg w (.slice a l.length cap) l) (hl : l.length ≤ 256) (hu : ∀ i, i ∈ l → i.imm < 4294967296) (hE : chkE c l = 0) (h0 : l ≠ []) :
    Calls Tryd.prog 14 #[.agg #[.int .i64 c, .slice a l.length cap]] w fun e w' => rkP c l w e w' := by
  obtain ⟨W0, hW0⟩ : ∃ W0, W0 = w.alloc (.cells #[.int .i64 c, .slice a l.length cap] 24) := ⟨_, rfl⟩
  have hb0 : Has W0 w.heap.size #[.int .i64 c, .slice a l.length cap] 24 := by rw [hW0]; exact has_new _ _ _ _ rfl
  have hB0 : Below w.heap.size w W0 := by rw [hW0]; exact (Below.refl _ _).alloc (Nat.le_refl _) _
  have hck := rcheck_any c _ l W0 (hP.below hB0) (by omega)
  rw [hE] at hck
  obtain ⟨a', cap', b, o, hsv, ha, hI, hb⟩ := hP
  obtain rfl : a = some ⟨b, o, none⟩ := by
    simp only [Value.slice.injEq] at hsv
    exact hsv.1.trans (ha h0)
  have hl1 : 1 ≤ l.length := by
    cases l with
    | nil => exact absurd rfl h0
    | cons i r => simp
  have HM : Hid (∀ i, i ∈ l → MayI i) := fun i hi => chk_may hE hi (hu i hi)
  have HC : Hid (0 ≤ c ∧ c ≤ 256) := chk_ctx hE
  have HE0 : Hid (chkE c l = 0 ∧ l ≠ []) := ⟨hE, h0⟩
  have HI : Hid (InsAt w b o l ∧ b < w.heap.size) := ⟨hI, hb⟩
  have hla : ((l.length : Int) == 0) = false := by simp; omega
  obtain ⟨n, hn⟩ : ∃ n, n = l.length := ⟨_, rfl⟩
  have HN : Hid (n = l.length) := hn
  rw [← hn] at hb0 hW0 hla hl hl1 hck ⊢
  clear hn hE h0 hu hsv ha hI hb
  have c0 := hb0.cell 0
  have c1 := hb0.cell 1
  go_enter Tryd.func14, Tryd.ntmps14
  go_upto_region 1 with fail
  rw [← hW0]
  clear hW0
  go_upto_region 6 with (go_at_call 29; refine hck.mono ?_; rintro e W1 ⟨rfl, hB1⟩; clear hck c0 c1; have hb1 := hb0.below hB1 hb0.lt; have c0 := hb1.cell 0; have c1 := hb1.cell 1)
  have hB2 := hB0.trans (hB1.mono hB0.size)
  have c1 : W1.cell? ⟨w.heap.size, 1, none⟩ = some (.slice (some ⟨b, o, none⟩) n cap) := hb1.cell 1
  clear hb0 hB0 hB1 c0
  first | refine wp_region_lit ?_ | skip
  refine valA (.pointer (some ⟨w.heap.size, 1, none⟩)) ?_
  refine ldA (ld22 c1) ?_
  refine valA (.int .i64 (n : Int)) ?_
  refine wpList_valG (w' := W1.alloc (.cells (madeCells noK.a (n * 31)) 43)) (v := .slice (some ⟨W1.heap.size, 0, none⟩) n n) (by kernel_rfl) (run_mk _ rfl n hl (by kernel_rfl)) ?_
  have hK0 : KB w c (.slice (some ⟨b, o, none⟩) n cap) W1.heap.size n (fun _ => noK) (W1.alloc (.cells (madeCells noK.a (n * 31)) 43)) :=
    ⟨has_old hb1, OW.made (has_new _ _ _ _ rfl), hb1.lt, hB2.alloc hB2.size _⟩
  clear c1 hb1 hB2
  generalize W1.alloc (.cells (madeCells noK.a (n * 31)) 43) = W2 at *
  generalize W1.heap.size = g at *
  refine valA (.slice (some ⟨g, 0, none⟩) n n) ?_
  go_simp
  have hn0 : (0 : Int) < n := by omega
  have g0 : W2.cell? ⟨g, 0, none⟩ = some (.bool false) := by have := hK0.out.at_ 0 (by omega) 0 (.bool false) rfl; simpa using this
  have gf : W2.frozen? ⟨g, 0, none⟩ = false := by obtain ⟨cs, h1, h2⟩ := hK0.out.has; exact h1.free 0
  go_upto_region 8 with fail
  clear g0 gf
  have hf := hK0.out.first hl1
  have hlg := hK0.lg
  have hK : KB w c (.slice (some ⟨b, o, none⟩) n cap) g n startW (W2.setCell ⟨g, 0, none⟩ (.bool true)) := ⟨hK0.box.ex hf.2 (by omega), hf.1, hlg, Below.ex hK0.below hK0.below.size hf.2 (by omega)⟩
  clear hf hlg hK0
  generalize W2.setCell ⟨g, 0, none⟩ (.bool true) = W3 at *
  have HR0 : Hid (∀ j, KnR (startW j)) := startW_right
  have HL : Hid (n ≤ 256 ∧ 1 ≤ n) := ⟨hl, hl1⟩
  clear hla hl hl1 hn0
  go_wp2_with fail
  go_loopw [6] (fun v wr => ∃ (k : Nat) (ws : Nat → Kn), k ≤ n ∧ v = .int .i64 (k : Int) ∧ KB w c (.slice (some ⟨b, o, none⟩) n cap) g n ws wr ∧ Hid (aheadE n c l 0 startW = aheadE n c (l.drop k) k ws) ∧ Hid (∀ j, KnR (ws j))) (fun v _ => n - (intOf v).toNat)
  case atStart => exact ⟨0, startW, Nat.zero_le _, rfl, hK, rfl, HR0⟩
  case round =>
    obtain ⟨k, ws, hk, rfl, hA, HE, HR⟩ := hrel
    clear hK HR0
    have c1 : wr.cell? ⟨w.heap.size, 1, none⟩ = some (.slice (some ⟨b, o, none⟩) n cap) := hA.box.cell 1
    by_cases hlt : k < n
    · have HLT : Hid (k < n) := hlt
      have hkl : k < l.length := by have := HN.out; omega
      obtain ⟨i, hi⟩ : ∃ i, l[k]? = some i := ⟨l[k], List.getElem?_eq_getElem hkl⟩
      have HMI : Hid (MayI i) := HM.out i (List.mem_of_getElem? hi)
      have hlt' : (k : Int) < n := by omega
      have HIK : Hid (l[k]? = some i) := hi
      have d5 : wr.cell? ⟨g, k * 31, none⟩ = some (.bool (ws k).come) := hA.out.at_ k hlt 0 _ rfl
      clear hkl hi hk hlt
      cases hco : (ws k).come with
      | false =>
        rw [hco] at d5
        have hst := ahead_step (n := n) (c := c) (ws := ws) HIK.out
        have hte : turnE n c k i ws = .ok ws := by unfold turnE; rw [if_pos hco]
        rw [hte] at hst
        have HE2 : Hid (aheadE n c l 0 startW = aheadE n c (l.drop (k + 1)) (k + 1) ws) := HE.out.trans hst
        have hk6 : k < 256 := by have := HLT.out; have := HL.out; omega
        have hk256 : (k : Int) < 256 := by omega
        clear hst hte hco HE hk6
        go_wp2_with fail
        go_roundw
        case rel => exact ⟨k + 1, ws, HLT.out, by simp, hA, HE2, HR⟩
        case measure => simp [intOf]; have := HLT.out; omega
      | true =>
        rw [hco] at d5
        have HCO : Hid ((ws k).come = true) := hco
        clear hco
        go_upto_region 12 with fail
        clear d5
        first | refine wp_region_lit ?_ | skip
        refine valA (.pointer (some ⟨w.heap.size, 1, none⟩)) ?_
        refine ldA (ld22 c1) ?_
        refine valA (.int .i64 (k : Int)) ?_
        refine valR (v := .pointer (some ⟨b, o + k * 5, none⟩)) (by clear hA c1; go_simp) ?_
        go_simp
        have hrg := ins_range (HI.out.1.below hA.below HI.out.2) HIK.out
        refine ldA (v := .agg i.a) (ty := 38) (ld_row (l := i.cells) hrg (by kernel_rfl)) ?_
        refine alA 38 (Ins.a ⟨0, 0, 0, 0, 0⟩) ?_
        have ax : Has (wr.alloc (.cells (Ins.a ⟨0, 0, 0, 0, 0⟩) 38)) wr.heap.size (Ins.a ⟨0, 0, 0, 0, 0⟩) 38 := has_new _ _ _ _ rfl
        refine stW 38 i.a ax (Ins.a_one _) ?_
        have hg : Below wr.heap.size wr ((wr.alloc (.cells (Ins.a ⟨0, 0, 0, 0, 0⟩) 38)).setRow wr.heap.size i.a) := setRow_below ((Below.refl _ _).alloc (Nat.le_refl _) _) (Nat.le_refl _) _
        have hA4 := hA.grow hg
        have hi4 := setRow_has ax i.a
        clear hg ax hA c1 hrg
        generalize (wr.alloc (.cells (Ins.a ⟨0, 0, 0, 0, 0⟩) 38)).setRow wr.heap.size i.a = W4 at *
        generalize wr.heap.size = bi at *
        go_simp
        have hch := chk_one HMI.out HC.out.1 HC.out.2
        have hcall := fun X => rbehind_any i c (ws k) X hch (right_knB (HR.out k)) HMI.out.2 (HR.out k).ok
        cases hout : outI i c (ws k) with
        | error x =>
          have HTE : Hid (aheadE n c l 0 startW = .error (some x)) := by
            show _ = _
            rw [HE.out, ahead_step HIK.out]
            unfold turnE
            rw [if_neg (by rw [HCO.out]; decide), hout]
          have hw : wayB i c (ws k) = wayA noK noK x.errno := by unfold wayB; rw [behV_no hch (right_knB (HR.out k)) HCO.out hout]
          rw [hw] at hcall
          have HKE : Hid (knownE c l = x.errno) := by
            show _ = _
            have := HTE.out
            rw [HN.out] at this
            exact knownE_no HE0.out.1 HE0.out.2 this
          have HNE : Hid (x.errno ≠ 0) := errno_ne x
          generalize x.errno = E at *
          clear hw hout hch HTE HE
          go_upto_region 13 with fail
          refine beh_reg (by kernel_rfl) hA4 hi4 HLT.out hcall (fun bw X hw5 hB5 hg5 => ?_)
          obtain ⟨W5, hren⟩ : ∃ Z, Z = X := ⟨_, rfl⟩
          subst hren
          have HBF : Hid (Below w.heap.size w W5) := hA4.below.trans (hB5.mono hA4.below.size)
          clear hA4 hi4 hcall hB5 hg5
          unfold bhK
          go_simp
          have y2 : W5.cell? ⟨bw, 62, none⟩ = some (.int .i64 E) := way_err hw5
          have hne : (E != 0) = true := by have := HNE.out; simpa using this
          go_upto_region 15 with fail
          refine wp_region_inv (Φ := fun l vs X => Vals (fun q => match q with | 0 => some (.pointer (some ⟨bw, 62, none⟩)) | 1 => some (.int .i64 E) | 2 => some (.slice none 0 0) | 3 => some (.int .i64 E) | _ => none) l vs ∧ Below W5.heap.size W5 X) (PQ := fun _ _ => False)
            (by kernel_rfl) (by kernel_rfl) (by kernel_rfl) (by kernel_rfl) ⟨Vals.none _ _, ((Below.refl _ _).drew)⟩ ?hop ?hend (fun _ _ _ _ h => h.elim)
          case hop =>
            refine ⟨?_, ?_, ?_, ?_, trivial⟩
            · intro l vs X A hA ⟨hV, hS⟩ hl hd hcl
              have hX := hS
              have hB := hX
              have a8 := eO hA 8 rfl
              refine show_value (v := .pointer (some ⟨bw, 62, none⟩)) (X' := X) ?_ ⟨hV.upd (fun _ h => Option.some.inj h), (hX)⟩
              generalize A.eval = ρ at *
              clear hA hl hd hcl hV hS
              go_simp
            · intro l vs X A hA ⟨hV, hS⟩ hl hd hcl
              have hX := hS
              have hB := hX
              have a56 := eN hA 56 0 hd hV rfl
              refine show_value (v := .int .i64 E) (X' := X) (run_ld 3 _ rfl _ a56 (ld3 (show X.cell? ⟨bw, 62, none⟩ = some (.int .i64 E) from way_err (hw5.below hB hw5.lt)))) ⟨hV.upd (fun _ h => Option.some.inj h), (hX)⟩
            · intro l vs X A hA ⟨hV, hS⟩ hl hd hcl
              have hX := hS
              have hB := hX
              have aC0 : A.eval (.const (.slice none 0 0)) = (.slice none 0 0) := rfl
              refine show_value (v := .slice none 0 0) (X' := X) ?_ ⟨hV.upd (fun _ h => Option.some.inj h), (hX)⟩
              generalize A.eval = ρ at *
              clear hA hl hd hcl hV hS
              go_simp
            · intro l vs X A hA ⟨hV, hS⟩ hl hd hcl
              have hX := hS
              have hB := hX
              have a57 := eN hA 57 1 hd hV rfl
              refine show_value (v := .int .i64 E) (X' := X) ?_ ⟨hV.upd (fun _ h => Option.some.inj h), (hX)⟩
              generalize A.eval = ρ at *
              clear hA hl hd hcl hV hS
              go_simp
          case hend =>
            intro l vs X hl ⟨hV, hS⟩
            have hX := hS
            have v0 := hV 0 _ (hl 0 (by decide)) rfl
            have v1 := hV 1 _ (hl 1 (by decide)) rfl
            have v2 := hV 2 _ (hl 2 (by decide)) rfl
            have v3 := hV 3 _ (hl 3 (by decide)) rfl
            clear hV hS hl
            simp only [canonL, if_true, v0, v1, v2, v3]
            clear v0 v1 v2 v3
            go_simp
            go_wp2_with fail
            exact bodyPost_ret (v := .tuple #[.slice none 0 0, .int .i64 E]) (by simp [results, Tryd.results14, go_sem]) rfl (rkP_no HKE.out HNE.out (HBF.out.trans (hX.mono HBF.out.size)))
        | ok p =>
          obtain ⟨n2, j2⟩ := p
          have hw : wayB i c (ws k) = wayA n2 j2 0 := by unfold wayB; rw [behV_ok hch (right_knB (HR.out k)) HCO.out hout]
          rw [hw] at hcall
          have HO : Hid (outI i c (ws k) = .ok (n2, j2)) := hout
          clear hw hout hch
          go_upto_region 13 with fail
          refine beh_reg (by kernel_rfl) hA4 hi4 HLT.out hcall (fun bw X hw5 hB5 hg5 => ?_)
          obtain ⟨W5, hren⟩ : ∃ Z, Z = X := ⟨_, rfl⟩
          subst hren
          have hA5 := hA4.grow hB5
          have hi5 := hi4.below hB5 hi4.lt
          have hbg : bw ≠ g := by have := hA4.out.lt; omega
          have HBG : Hid (bw ≠ g) := hbg
          clear hA4 hi4 hcall hB5 hg5 hbg
          unfold bhK
          go_simp
          obtain ⟨m, hop⟩ : ∃ m : Nat, i.op = (m : Int) := ⟨i.op.toNat, by have := HMI.out.1.1; omega⟩
          have hm24 : 1 ≤ m ∧ m ≤ 24 := by have := HMI.out.1.1; omega
          have y2 : W5.cell? ⟨bw, 62, none⟩ = some (.int .i64 0) := way_err hw5
          have y0 : W5.cell? ⟨bi, 0, none⟩ = some (.int .i64 (m : Int)) := by have := hi5.cell 0; rw [this]; show some (Value.int .i64 i.op) = _; rw [hop]
          have y3 : W5.cell? ⟨bi, 3, none⟩ = some (.int .i64 i.off) := hi5.cell 3
          have c1 : W5.cell? ⟨w.heap.size, 1, none⟩ = some (.slice (some ⟨b, o, none⟩) n cap) := hA5.box.cell 1
          have z0 : W5.cell? ⟨bw, 0, none⟩ = some (.bool n2.come) := hw5.cell 0
          have z1 : W5.cell? ⟨bw, 31, none⟩ = some (.bool j2.come) := by
            have := way_jumpedR hw5 0 (.bool j2.come) rfl
            simpa using this
          have hoff : -32768 ≤ i.off ∧ i.off ≤ 32767 := by have := HMI.out.1.1; have := HMI.out.1.2.2.2.1; omega
          obtain ⟨tz, htz⟩ : ∃ tz, tz = (k : Int) + 1 + i.off := ⟨_, rfl⟩
          have hk6 : k < 256 := by have := HLT.out; have := HL.out; omega
          have hk256 : (k : Int) < 256 := by omega
          have e1 : wrap64 ((k : Int) + 1) = (k : Int) + 1 := by simp only [wrap64]; omega
          have e2 : wrap64 ((k : Int) + 1 + i.off) = tz := by simp only [wrap64]; omega
          have HTZ : Hid (tz = (k : Int) + 1 + i.off) := htz
          have HOP : Hid (i.op = (m : Int)) := hop
          have HM24 : Hid (1 ≤ m ∧ m ≤ 24) := hm24
          have HW5 : Hid (Has W5 bw (wayA n2 j2 0) 49) := hw5
          have HA5 : Hid (KB w c (.slice (some ⟨b, o, none⟩) n cap) g n ws W5) := hA5
          have HOFF : Hid (-32768 ≤ i.off ∧ i.off ≤ 32767) := hoff
          have HK6 : Hid (k < 256) := hk6
          clear htz hop hm24 hi5 hoff hk6 hw5 hA5
          go_upto_region 18 with fail
          rw [show wrap64 ((k : Int) + 1 + i.off) = tz by simp only [wrap64]; have := HTZ.out; have := HOFF.out; omega]
          clear y2 y0 y3 e2
          by_cases q18 : m ≤ 18
          · have hnc : n2.come = true := out_come HO.out HCO.out (.inl (by have := HOP.out; have := HM24.out; omega))
            have hjc : j2.come = false := by
              cases h : j2.come with
              | false => rfl
              | true => have := out_jump HO.out h; have := HOP.out; omega
            have HRE : Hid (reachI i = 1) := reach_one HOP.out (.inl q18)
            have g19 : ¬ (19 : Int) ≤ m := by omega
            rw [hnc] at z0
            clear q18
            by_cases q2 : k + 1 = n
            · have f2 : ((k : Int) + 1 == (n : Int)) = true := by simp; omega
              have HQ : Hid (k + 1 = n) := q2
              clear q2
              go_upto_region 19 with fail
              have HTE : Hid (knownE c l = 164) := by
                show _ = _
                have h1 := HE.out
                rw [ahead_step HIK.out, turn_astray HCO.out HO.out (by have := HRE.out; have := HQ.out; omega)] at h1
                simp only at h1
                rw [HN.out] at h1
                exact known_astray_is HE0.out.1 HE0.out.2 h1
              have HBF : Hid (Below w.heap.size w W5) := HA5.out.below
              clear HA5 HW5 c1 z0 z1
              go_wp2_with fail
              exact bodyPost_ret (v := .tuple #[.slice none 0 0, .int .i64 164]) (by simp [results, Tryd.results14, go_sem]) rfl (rkP_no HTE.out (by decide) HBF.out)
            · have f2 : ((k : Int) + 1 == (n : Int)) = false := by simp; omega
              have hkn : k + 1 < n := by have := HLT.out; omega
              clear q2
              have HNR : Hid (¬ (n : Int) ≤ (k : Int) + reachI i) := by show ¬ _; have := HRE.out; have := HLT.out; omega
              obtain ⟨hgn, hgj⟩ := outI_right HMI.out (HR.out k) HO.out
              have HE2 : Hid (∀ ws', ws' = leadW (leadW ws (k + 1) n2) (k + 1 + i.off.toNat) j2 → Hid (aheadE n c l 0 startW = aheadE n c (l.drop (k + 1)) (k + 1) ws')) := fun ws' e => by
                show _ = _
                have h1 := HE.out
                rw [ahead_step HIK.out, turn_on HCO.out HO.out HNR.out] at h1
                rw [e]; exact h1
              have HR2 : Hid (∀ ws', ws' = leadW (leadW ws (k + 1) n2) (k + 1 + i.off.toNat) j2 → Hid (∀ j, KnR (ws' j))) := fun ws' e => by
                show ∀ j, KnR (ws' j)
                rw [e]; exact leadW_right (leadW_right HR.out _ hgn) _ hgj
              clear hgn hgj
              go_upto_region 20 with fail
              clear c1
              go_upto_region 21 with fail
              clear z0 z1
              refine nxt_reg (by kernel_rfl) k (k + 1) HA5.out HW5.out HBG.out (by omega) (by rw [IntKind.wrap_i64]; have := HK6.out; omega) (fun X6 hA6 hw6 => ?_)
              have HT1 : Hid (leadW ws (k + 1) n2 = upd ws (k + 1) (joinK (ws (k + 1)) n2)) := lead_some _ hnc
              obtain ⟨ws1, hws1⟩ : ∃ ws1, ws1 = upd ws (k + 1) (joinK (ws (k + 1)) n2) := ⟨_, rfl⟩
              rw [← hws1] at hA6
              have HW1 : Hid (leadW ws (k + 1) n2 = ws1) := HT1.out.trans hws1.symm
              have z1 : X6.cell? ⟨bw, 31, none⟩ = some (.bool j2.come) := by
                have := way_jumpedR hw6 0 (.bool j2.come) rfl
                simpa using this
              clear hws1 HT1
              unfold nxtK
              go_simp
              rw [hjc] at z1
              have HT2 : Hid (leadW ws1 (k + 1 + i.off.toNat) j2 = ws1) := lead_none _ hjc
              go_wp2_with fail
              go_roundw
              case rel => exact ⟨k + 1, leadW ws1 (k + 1 + i.off.toNat) j2, HLT.out, by simp, by rw [HT2.out]; exact hA6, HE2.out _ (by rw [HW1.out]), HR2.out _ (by rw [HW1.out])⟩
              case measure => simp [intOf]; have := HLT.out; omega
          by_cases q23 : 23 ≤ m
          · have hjc : j2.come = false := by
              cases h : j2.come with
              | false => rfl
              | true => have := out_jump HO.out h; have := HOP.out; omega
            have g19 : (19 : Int) ≤ m := by omega
            have g22 : ¬ (m : Int) ≤ 22 := by omega
            by_cases q24 : m = 24
            · have hnc : n2.come = false := by
                cases h : n2.come with
                | false => rfl
                | true => have := out_next HO.out h; have := HOP.out; omega
              have HRE : Hid (reachI i = 0) := reach_zero (by rw [HOP.out, q24])
              rw [hnc] at z0
              clear q23 q24 q18
              have HNR : Hid (¬ (n : Int) ≤ (k : Int) + reachI i) := by show ¬ _; have := HRE.out; have := HLT.out; omega
              obtain ⟨hgn, hgj⟩ := outI_right HMI.out (HR.out k) HO.out
              have HE2 : Hid (∀ ws', ws' = leadW (leadW ws (k + 1) n2) (k + 1 + i.off.toNat) j2 → Hid (aheadE n c l 0 startW = aheadE n c (l.drop (k + 1)) (k + 1) ws')) := fun ws' e => by
                show _ = _
                have h1 := HE.out
                rw [ahead_step HIK.out, turn_on HCO.out HO.out HNR.out] at h1
                rw [e]; exact h1
              have HR2 : Hid (∀ ws', ws' = leadW (leadW ws (k + 1) n2) (k + 1 + i.off.toNat) j2 → Hid (∀ j, KnR (ws' j))) := fun ws' e => by
                show ∀ j, KnR (ws' j)
                rw [e]; exact leadW_right (leadW_right HR.out _ hgn) _ hgj
              clear hgn hgj
              go_upto_region 20 with fail
              clear c1
              have HW1 : Hid (leadW ws (k + 1) n2 = ws) := lead_none _ hnc
              have hA6 := HA5.out
              have hw6 := HW5.out
              rw [hjc] at z1
              have HT2 : Hid (leadW ws (k + 1 + i.off.toNat) j2 = ws) := lead_none _ hjc
              go_wp2_with fail
              go_roundw
              case rel => exact ⟨k + 1, leadW ws (k + 1 + i.off.toNat) j2, HLT.out, by simp, by rw [HT2.out]; exact hA6, HE2.out _ (by rw [HW1.out]), HR2.out _ (by rw [HW1.out])⟩
              case measure => simp [intOf]; have := HLT.out; omega
            · have hnc : n2.come = true := out_come HO.out HCO.out (.inr (by have := HOP.out; have := HM24.out; omega))
              have HRE : Hid (reachI i = 1) := reach_one HOP.out (.inr (by have := HM24.out; omega))
              rw [hnc] at z0
              clear q23 q24 q18
              by_cases q2 : k + 1 = n
              · have f2 : ((k : Int) + 1 == (n : Int)) = true := by simp; omega
                have HQ : Hid (k + 1 = n) := q2
                clear q2
                go_upto_region 19 with fail
                have HTE : Hid (knownE c l = 164) := by
                  show _ = _
                  have h1 := HE.out
                  rw [ahead_step HIK.out, turn_astray HCO.out HO.out (by have := HRE.out; have := HQ.out; omega)] at h1
                  simp only at h1
                  rw [HN.out] at h1
                  exact known_astray_is HE0.out.1 HE0.out.2 h1
                have HBF : Hid (Below w.heap.size w W5) := HA5.out.below
                clear HA5 HW5 c1 z0 z1
                go_wp2_with fail
                exact bodyPost_ret (v := .tuple #[.slice none 0 0, .int .i64 164]) (by simp [results, Tryd.results14, go_sem]) rfl (rkP_no HTE.out (by decide) HBF.out)
              · have f2 : ((k : Int) + 1 == (n : Int)) = false := by simp; omega
                have hkn : k + 1 < n := by have := HLT.out; omega
                clear q2
                have HNR : Hid (¬ (n : Int) ≤ (k : Int) + reachI i) := by show ¬ _; have := HRE.out; have := HLT.out; omega
                obtain ⟨hgn, hgj⟩ := outI_right HMI.out (HR.out k) HO.out
                have HE2 : Hid (∀ ws', ws' = leadW (leadW ws (k + 1) n2) (k + 1 + i.off.toNat) j2 → Hid (aheadE n c l 0 startW = aheadE n c (l.drop (k + 1)) (k + 1) ws')) := fun ws' e => by
                  show _ = _
                  have h1 := HE.out
                  rw [ahead_step HIK.out, turn_on HCO.out HO.out HNR.out] at h1
                  rw [e]; exact h1
                have HR2 : Hid (∀ ws', ws' = leadW (leadW ws (k + 1) n2) (k + 1 + i.off.toNat) j2 → Hid (∀ j, KnR (ws' j))) := fun ws' e => by
                  show ∀ j, KnR (ws' j)
                  rw [e]; exact leadW_right (leadW_right HR.out _ hgn) _ hgj
                clear hgn hgj
                go_upto_region 20 with fail
                clear c1
                go_upto_region 21 with fail
                clear z0 z1
                refine nxt_reg (by kernel_rfl) k (k + 1) HA5.out HW5.out HBG.out (by omega) (by rw [IntKind.wrap_i64]; have := HK6.out; omega) (fun X6 hA6 hw6 => ?_)
                have HT1 : Hid (leadW ws (k + 1) n2 = upd ws (k + 1) (joinK (ws (k + 1)) n2)) := lead_some _ hnc
                obtain ⟨ws1, hws1⟩ : ∃ ws1, ws1 = upd ws (k + 1) (joinK (ws (k + 1)) n2) := ⟨_, rfl⟩
                rw [← hws1] at hA6
                have HW1 : Hid (leadW ws (k + 1) n2 = ws1) := HT1.out.trans hws1.symm
                have z1 : X6.cell? ⟨bw, 31, none⟩ = some (.bool j2.come) := by
                  have := way_jumpedR hw6 0 (.bool j2.come) rfl
                  simpa using this
                clear hws1 HT1
                unfold nxtK
                go_simp
                rw [hjc] at z1
                have HT2 : Hid (leadW ws1 (k + 1 + i.off.toNat) j2 = ws1) := lead_none _ hjc
                go_wp2_with fail
                go_roundw
                case rel => exact ⟨k + 1, leadW ws1 (k + 1 + i.off.toNat) j2, HLT.out, by simp, by rw [HT2.out]; exact hA6, HE2.out _ (by rw [HW1.out]), HR2.out _ (by rw [HW1.out])⟩
                case measure => simp [intOf]; have := HLT.out; omega
          have HRE : Hid (reachI i = 1 + i.off) := reach_of_op HOP.out (by omega) (by omega)
          have HOF : Hid (0 ≤ i.off) := by show _ ≤ _; have := HMI.out.1.2.2.2.1; have := HOP.out; omega
          have g19 : (19 : Int) ≤ m := by omega
          have g22 : (m : Int) ≤ 22 := by omega
          clear q18 q23
          by_cases q5 : (n : Int) ≤ tz
          · cases hnc : n2.come with
            | false =>
              rw [hnc] at z0
              go_upto_region 19 with fail
              have HTE : Hid (knownE c l = 164) := by
                show _ = _
                have h1 := HE.out
                rw [ahead_step HIK.out, turn_astray HCO.out HO.out (by have := HRE.out; have := HTZ.out; have := q5; omega)] at h1
                simp only at h1
                rw [HN.out] at h1
                exact known_astray_is HE0.out.1 HE0.out.2 h1
              have HBF : Hid (Below w.heap.size w W5) := HA5.out.below
              clear HA5 HW5 c1 z0 z1
              go_wp2_with fail
              exact bodyPost_ret (v := .tuple #[.slice none 0 0, .int .i64 164]) (by simp [results, Tryd.results14, go_sem]) rfl (rkP_no HTE.out (by decide) HBF.out)
            | true =>
              rw [hnc] at z0
              by_cases q2 : k + 1 = n
              · have f2 : ((k : Int) + 1 == (n : Int)) = true := by simp; omega
                have Q5 : Hid ((n : Int) ≤ tz) := q5
                clear q2 q5
                go_upto_region 19 with fail
                have HTE : Hid (knownE c l = 164) := by
                  show _ = _
                  have h1 := HE.out
                  rw [ahead_step HIK.out, turn_astray HCO.out HO.out (by have := HRE.out; have := HTZ.out; have := Q5.out; omega)] at h1
                  simp only at h1
                  rw [HN.out] at h1
                  exact known_astray_is HE0.out.1 HE0.out.2 h1
                have HBF : Hid (Below w.heap.size w W5) := HA5.out.below
                clear HA5 HW5 c1 z0 z1
                go_wp2_with fail
                exact bodyPost_ret (v := .tuple #[.slice none 0 0, .int .i64 164]) (by simp [results, Tryd.results14, go_sem]) rfl (rkP_no HTE.out (by decide) HBF.out)
              · have f2 : ((k : Int) + 1 == (n : Int)) = false := by simp; omega
                clear q2
                go_upto_region 19 with fail
                have HTE : Hid (knownE c l = 164) := by
                  show _ = _
                  have h1 := HE.out
                  rw [ahead_step HIK.out, turn_astray HCO.out HO.out (by have := HRE.out; have := HTZ.out; have := q5; omega)] at h1
                  simp only at h1
                  rw [HN.out] at h1
                  exact known_astray_is HE0.out.1 HE0.out.2 h1
                have HBF : Hid (Below w.heap.size w W5) := HA5.out.below
                clear HA5 HW5 c1 z0 z1
                go_wp2_with fail
                exact bodyPost_ret (v := .tuple #[.slice none 0 0, .int .i64 164]) (by simp [results, Tryd.results14, go_sem]) rfl (rkP_no HTE.out (by decide) HBF.out)
          · have HQ5 : Hid (¬ (n : Int) ≤ tz) := q5
            cases hnc : n2.come with
            | false =>
              rw [hnc] at z0
              have HNR : Hid (¬ (n : Int) ≤ (k : Int) + reachI i ∧ ¬ (n : Int) ≤ tz) := ⟨by have := HRE.out; have := HTZ.out; have := HQ5.out; omega, HQ5.out⟩
              obtain ⟨hgn, hgj⟩ := outI_right HMI.out (HR.out k) HO.out
              have HE2 : Hid (∀ ws', ws' = leadW (leadW ws (k + 1) n2) (k + 1 + i.off.toNat) j2 → Hid (aheadE n c l 0 startW = aheadE n c (l.drop (k + 1)) (k + 1) ws')) := fun ws' e => by
                show _ = _
                have h1 := HE.out
                rw [ahead_step HIK.out, turn_on HCO.out HO.out HNR.out.1] at h1
                rw [e]; exact h1
              have HR2 : Hid (∀ ws', ws' = leadW (leadW ws (k + 1) n2) (k + 1 + i.off.toNat) j2 → Hid (∀ j, KnR (ws' j))) := fun ws' e => by
                show ∀ j, KnR (ws' j)
                rw [e]; exact leadW_right (leadW_right HR.out _ hgn) _ hgj
              clear hgn hgj
              cases hjc : j2.come with
              | false =>
                go_upto_region 20 with fail
                clear c1
                have HW1 : Hid (leadW ws (k + 1) n2 = ws) := lead_none _ hnc
                have hA6 := HA5.out
                have hw6 := HW5.out
                rw [hjc] at z1
                have HT2 : Hid (leadW ws (k + 1 + i.off.toNat) j2 = ws) := lead_none _ hjc
                go_wp2_with fail
                go_roundw
                case rel => exact ⟨k + 1, leadW ws (k + 1 + i.off.toNat) j2, HLT.out, by simp, by rw [HT2.out]; exact hA6, HE2.out _ (by rw [HW1.out]), HR2.out _ (by rw [HW1.out])⟩
                case measure => simp [intOf]; have := HLT.out; omega
              | true =>
                go_upto_region 20 with fail
                clear c1
                have HW1 : Hid (leadW ws (k + 1) n2 = ws) := lead_none _ hnc
                have hA6 := HA5.out
                have hw6 := HW5.out
                rw [hjc] at z1
                go_upto_region 23 with fail
                clear z1 z0
                obtain ⟨to, hto⟩ : ∃ to : Nat, to = k + 1 + i.off.toNat := ⟨_, rfl⟩
                obtain rfl : tz = (to : Int) := by have := HTZ.out; have := HOF.out; omega
                refine jmp_reg (by kernel_rfl) k to hA6 hw6 HBG.out (by have := HNR.out; have := HTZ.out; omega) (fun X7 hA7 hw7 => ?_)
                have HT2 : Hid (leadW ws (k + 1 + i.off.toNat) j2 = upd ws to (joinK (ws to) j2)) := by show _ = _; rw [lead_some _ hjc, hto]
                clear hA6 hw6 hto
                unfold jmpK
                go_simp
                go_wp2_with fail
                go_roundw
                case rel => exact ⟨k + 1, leadW ws (k + 1 + i.off.toNat) j2, HLT.out, by simp, by rw [HT2.out]; exact hA7, HE2.out _ (by rw [HW1.out]), HR2.out _ (by rw [HW1.out])⟩
                case measure => simp [intOf]; have := HLT.out; omega
            | true =>
              rw [hnc] at z0
              have f2 : ((k : Int) + 1 == (n : Int)) = false := by simp; have := HQ5.out; have := HTZ.out; have := HOF.out; omega
              have hkn : k + 1 < n := by have := HQ5.out; have := HTZ.out; have := HOF.out; omega
              have HNR : Hid (¬ (n : Int) ≤ (k : Int) + reachI i ∧ ¬ (n : Int) ≤ tz) := ⟨by have := HRE.out; have := HTZ.out; have := HQ5.out; omega, HQ5.out⟩
              obtain ⟨hgn, hgj⟩ := outI_right HMI.out (HR.out k) HO.out
              have HE2 : Hid (∀ ws', ws' = leadW (leadW ws (k + 1) n2) (k + 1 + i.off.toNat) j2 → Hid (aheadE n c l 0 startW = aheadE n c (l.drop (k + 1)) (k + 1) ws')) := fun ws' e => by
                show _ = _
                have h1 := HE.out
                rw [ahead_step HIK.out, turn_on HCO.out HO.out HNR.out.1] at h1
                rw [e]; exact h1
              have HR2 : Hid (∀ ws', ws' = leadW (leadW ws (k + 1) n2) (k + 1 + i.off.toNat) j2 → Hid (∀ j, KnR (ws' j))) := fun ws' e => by
                show ∀ j, KnR (ws' j)
                rw [e]; exact leadW_right (leadW_right HR.out _ hgn) _ hgj
              clear hgn hgj
              cases hjc : j2.come with
              | false =>
                go_upto_region 20 with fail
                clear c1
                go_upto_region 21 with fail
                clear z0 z1
                refine nxt_reg (by kernel_rfl) k (k + 1) HA5.out HW5.out HBG.out (by omega) (by rw [IntKind.wrap_i64]; have := HK6.out; omega) (fun X6 hA6 hw6 => ?_)
                have HT1 : Hid (leadW ws (k + 1) n2 = upd ws (k + 1) (joinK (ws (k + 1)) n2)) := lead_some _ hnc
                obtain ⟨ws1, hws1⟩ : ∃ ws1, ws1 = upd ws (k + 1) (joinK (ws (k + 1)) n2) := ⟨_, rfl⟩
                rw [← hws1] at hA6
                have HW1 : Hid (leadW ws (k + 1) n2 = ws1) := HT1.out.trans hws1.symm
                have z1 : X6.cell? ⟨bw, 31, none⟩ = some (.bool j2.come) := by
                  have := way_jumpedR hw6 0 (.bool j2.come) rfl
                  simpa using this
                clear hws1 HT1
                unfold nxtK
                go_simp
                rw [hjc] at z1
                have HT2 : Hid (leadW ws1 (k + 1 + i.off.toNat) j2 = ws1) := lead_none _ hjc
                go_wp2_with fail
                go_roundw
                case rel => exact ⟨k + 1, leadW ws1 (k + 1 + i.off.toNat) j2, HLT.out, by simp, by rw [HT2.out]; exact hA6, HE2.out _ (by rw [HW1.out]), HR2.out _ (by rw [HW1.out])⟩
                case measure => simp [intOf]; have := HLT.out; omega
              | true =>
                go_upto_region 20 with fail
                clear c1
                go_upto_region 21 with fail
                clear z0 z1
                refine nxt_reg (by kernel_rfl) k (k + 1) HA5.out HW5.out HBG.out (by omega) (by rw [IntKind.wrap_i64]; have := HK6.out; omega) (fun X6 hA6 hw6 => ?_)
                have HT1 : Hid (leadW ws (k + 1) n2 = upd ws (k + 1) (joinK (ws (k + 1)) n2)) := lead_some _ hnc
                obtain ⟨ws1, hws1⟩ : ∃ ws1, ws1 = upd ws (k + 1) (joinK (ws (k + 1)) n2) := ⟨_, rfl⟩
                rw [← hws1] at hA6
                have HW1 : Hid (leadW ws (k + 1) n2 = ws1) := HT1.out.trans hws1.symm
                have z1 : X6.cell? ⟨bw, 31, none⟩ = some (.bool j2.come) := by
                  have := way_jumpedR hw6 0 (.bool j2.come) rfl
                  simpa using this
                clear hws1 HT1
                unfold nxtK
                go_simp
                rw [hjc] at z1
                go_upto_region 23 with fail
                clear z1
                obtain ⟨to, hto⟩ : ∃ to : Nat, to = k + 1 + i.off.toNat := ⟨_, rfl⟩
                obtain rfl : tz = (to : Int) := by have := HTZ.out; have := HOF.out; omega
                refine jmp_reg (by kernel_rfl) k to hA6 hw6 HBG.out (by have := HNR.out; have := HTZ.out; omega) (fun X7 hA7 hw7 => ?_)
                have HT2 : Hid (leadW ws1 (k + 1 + i.off.toNat) j2 = upd ws1 to (joinK (ws1 to) j2)) := by show _ = _; rw [lead_some _ hjc, hto]
                clear hA6 hw6 hto
                unfold jmpK
                go_simp
                go_wp2_with fail
                go_roundw
                case rel => exact ⟨k + 1, leadW ws1 (k + 1 + i.off.toNat) j2, HLT.out, by simp, by rw [HT2.out]; exact hA7, HE2.out _ (by rw [HW1.out]), HR2.out _ (by rw [HW1.out])⟩
                case measure => simp [intOf]; have := HLT.out; omega
    · obtain rfl : k = n := by omega
      clear hlt
      have HF : Hid (aheadE k c l 0 startW = .ok ws) := by
        show _ = _
        rw [HE.out, HN.out, List.drop_length]
        rfl
      have HA9 : Hid (KB w c (.slice (some ⟨b, o, none⟩) k cap) g k ws wr) := hA
      clear hA HE
      go_wp2_with fail
      have hf := HF.out
      have hkn := HA9.out.out.kns
      have hn := HN.out
      subst hn
      have hk0 := knownE_ok HE0.out.1 HE0.out.2 hf
      exact bodyPost_ret (v := .tuple #[.slice (some ⟨g, 0, none⟩) l.length l.length, .int .i64 0]) (by simp [results, Tryd.results14, go_sem]) rfl ⟨_, by rw [hk0], fun _ => ⟨ws, hf, hkn⟩, (fun h => absurd hk0 h), HA9.out.below⟩
theorem rknown_any (c : Int) (sv : Value) (l : List Ins) (w : World) (hP : Prg w sv l) (hl : l.length ≤ 1000000000) (hu : ∀ i, i ∈ l → i.imm < 4294967296) :
    Calls Tryd.prog 14 #[.agg #[.int .i64 c, sv]] w fun e w' => rkP c l w e w' := by
  obtain ⟨a, cap, b, o, rfl, h2⟩ := hP
  have hP : Prg w (.slice a l.length cap) l := ⟨a, cap, b, o, rfl, h2⟩
  by_cases hE : chkE c l = 0
  · by_cases h0 : l = []
    · subst h0
      refine (rknown_empty c a cap w hP hE).mono ?_
      rintro e w' ⟨rfl, hB⟩
      exact rkP_no (knownE_empty hE rfl) (by decide) hB
    · exact rknown_main c a cap l w hP (chk_len hE) hu hE h0
  · refine (rknown_bad c a cap l w hP hl _ rfl hE).mono ?_
    rintro e w' ⟨rfl, hB⟩
    exact rkP_no (knownE_bad hE) hE hB
end Go.Proofs.YtodkehpldlmgaaaDoor
