/- sha.value, sha.Parse. -/
import Derived.Test.YtkcngkkjlnadiaaDoorB3
namespace Go.Proofs.YtkcngkkjlnadiaaDoor
open Go.RowKit

/-- What a digit stands for. -/
def hexv (c : UInt8) : UInt8 × Bool :=
  if 48 ≤ c.toNat ∧ c.toNat ≤ 57 then (c - 48, true) else if 97 ≤ c.toNat ∧ c.toNat ≤ 102 then (c - 97 + 10, true) else (0, false)
theorem hexv_lt (c : UInt8) (h : (hexv c).2 = true) : (hexv c).1.toNat < 16 := by
  have key : ∀ n : Fin 256, (hexv (UInt8.ofNat n.val)).2 = true → (hexv (UInt8.ofNat n.val)).1.toNat < 16 := by decide +kernel
  have := key ⟨c.toNat, c.toNat_lt⟩
  simp only [UInt8.ofNat_toNat] at this
  exact this h

set_option maxHeartbeats 400000 in
theorem value_any (c : UInt8) (w : World) :
    Calls Tryd.prog 33 #[.int .u8 (bv c)] w fun e w' => e = .returned (.tuple #[.int .u8 (bv (hexv c).1), .bool (hexv c).2]) ∧ w' = w := by
  have hc := c.toNat_lt
  have b0 := bv_nonneg c
  have b1 := bv_lt c
  have eb : bv c = (c.toNat : Int) := rfl
  by_cases h1 : 48 ≤ c.toNat
  · by_cases h2 : c.toNat ≤ 57
    · have i1 : (48 : Int) ≤ bv c := by omega
      have i2 : bv c ≤ 57 := by omega
      have hv : hexv c = (c - 48, true) := by unfold hexv; rw [if_pos ⟨h1, h2⟩]
      have hs : bv c - 48 = bv (c - 48) := by unfold bv; rw [UInt8.toNat_sub_of_le _ _ (by rw [UInt8.le_iff_toNat_le]; exact h1)]; simp; omega
      rw [hv]
      have HS : Hid (bv c - 48 = bv (c - 48)) := hs
      clear hs eb hv
      go_enter Tryd.func33, Tryd.ntmps33
      go_wp2
      go_ret2
      rw [← HS.out]
      exact ⟨rfl, rfl⟩
    · by_cases h3 : 97 ≤ c.toNat
      · by_cases h4 : c.toNat ≤ 102
        · have i1 : (48 : Int) ≤ bv c := by omega
          have i2 : ¬ bv c ≤ 57 := by omega
          have i3 : (97 : Int) ≤ bv c := by omega
          have i4 : bv c ≤ 102 := by omega
          have hv : hexv c = (c - 97 + 10, true) := by unfold hexv; rw [if_neg (by omega), if_pos ⟨h3, h4⟩]
          have hs : bv c - 97 + 10 = bv (c - 97 + 10) := by
            unfold bv
            have e1 : (c - 97).toNat = c.toNat - 97 := UInt8.toNat_sub_of_le _ _ (by rw [UInt8.le_iff_toNat_le]; exact h3)
            rw [UInt8.toNat_add, e1]; simp; omega
          rw [hv]
          have HS : Hid (bv c - 97 + 10 = bv (c - 97 + 10)) := hs
          clear hs eb hv
          go_enter Tryd.func33, Tryd.ntmps33
          go_wp2
          go_ret2
          rw [← HS.out]
          exact ⟨rfl, rfl⟩
        · have i1 : (48 : Int) ≤ bv c := by omega
          have i2 : ¬ bv c ≤ 57 := by omega
          have i3 : (97 : Int) ≤ bv c := by omega
          have i4 : ¬ bv c ≤ 102 := by omega
          have hv : hexv c = (0, false) := by unfold hexv; rw [if_neg (by omega), if_neg (by omega)]
          rw [hv]
          clear eb hv
          go_enter Tryd.func33, Tryd.ntmps33
          go_wp2
          go_ret2
          exact ⟨rfl, rfl⟩
      · have i1 : (48 : Int) ≤ bv c := by omega
        have i2 : ¬ bv c ≤ 57 := by omega
        have i3 : ¬ (97 : Int) ≤ bv c := by omega
        have hv : hexv c = (0, false) := by unfold hexv; rw [if_neg (by omega), if_neg (by omega)]
        rw [hv]
        clear eb hv
        go_enter Tryd.func33, Tryd.ntmps33
        go_wp2
        go_ret2
        exact ⟨rfl, rfl⟩
  · have i1 : ¬ (48 : Int) ≤ bv c := by omega
    have i3 : ¬ (97 : Int) ≤ bv c := by omega
    have hv : hexv c = (0, false) := by unfold hexv; rw [if_neg (by omega), if_neg (by omega)]
    rw [hv]
    clear eb hv
    go_enter Tryd.func33, Tryd.ntmps33
    go_wp2
    go_ret2
    exact ⟨rfl, rfl⟩

set_option maxHeartbeats 400000 in
theorem num_any (n : Int) (w : World) : Calls Tryd.prog 23 #[.int .i64 n] w fun e w' => e = .returned (.int .i64 n) ∧ w' = w := by
  go_enter Tryd.func23, Tryd.ntmps23
  go_wp2
  go_ret
  exact ⟨rfl, rfl⟩

def parseB (l : List UInt8) (i : Nat) : UInt8 := (hexv (l[2 * i]?.getD 0)).1 * 16 + (hexv (l[2 * i + 1]?.getD 0)).1
def okAt (l : List UInt8) (i : Nat) : Bool := (hexv (l[2 * i]?.getD 0)).2 && (hexv (l[2 * i + 1]?.getD 0)).2
def good (l : List UInt8) : Bool := l.length == 64 && (List.range 32).all (okAt l)
/-- The digest whose text that is, or noughts. -/
def parseD (l : List UInt8) : List UInt8 := if good l then (List.range 32).map (parseB l) else List.replicate 32 0
def parseE (l : List UInt8) : Int := if good l then 0 else 110
theorem parseD_length (l : List UInt8) : (parseD l).length = 32 := by unfold parseD; split <;> simp
theorem byteCells_zero (n : Nat) : byteCells (List.replicate n 0) = zeroCells n := by
  unfold byteCells zeroCells
  rw [List.map_replicate]
  apply Array.ext'
  simp [bv]
theorem run_indexS (l : List UInt8) (k : Nat) (i : Int) (hi : i = (k : Int)) (h : k < l.length) (w : World) :
    (Instr.index 9 (.string ⟨l.toArray⟩) (.int .i64 i)).run Tryd.prog w = .ok (.int .u8 (bv (l[k]?.getD 0))) w := by
  subst hi
  simp [Instr.index, go_sem, h]
  rfl

theorem results_parse (tmps : Array Value) (W : World) (g : Nat) (cs : Array Value) (n : Int) (hp : tmps.getD 2 undef = .pointer (some ⟨g, 0, none⟩)) (h3 : tmps.getD 3 undef = .int .i64 n) (hg : Has W g cs 25) (hs : cs.size = 32) :
    (results Tryd.f20 tmps).run Tryd.prog W = .ok (.tuple #[.agg cs, .int .i64 n]) W := by
  have hp' : tmps[2]?.getD undef = .pointer (some ⟨g, 0, none⟩) := by simpa using hp
  have h3' : tmps[3]?.getD undef = .int .i64 n := by simpa using h3
  simp [results, Tryd.results20, hp', h3', asAddr, run_loadVar_row W g 25 25 cs (0, 0) _ hg Tryd.underlying25 rfl (by rw [hs]; kernel_rfl), Result.andThen]

theorem good_not_len (l : List UInt8) (h : ¬ l.length = 64) : good l = false := by simp [good, h]
theorem good_not_at (l : List UInt8) (i : Nat) (hi : i < 32) (h : okAt l i = false) : good l = false := by
  unfold good
  rw [Bool.and_eq_false_iff]; right
  rw [List.all_eq_false]
  exact ⟨i, by simpa using hi, by simp [h]⟩
theorem good_all (l : List UInt8) (hl : l.length = 64) (h : ∀ i, i < 32 → okAt l i = true) : good l = true := by
  unfold good
  rw [Bool.and_eq_true]
  exact ⟨by simp [hl], List.all_eq_true.2 fun i hi => h i (by simpa using hi)⟩

set_option maxRecDepth 100000 in
set_option maxHeartbeats 1000000 in
theorem parse_any (l : List UInt8) (w : World) :
    Calls Tryd.prog 20 #[.string ⟨l.toArray⟩] w fun e w' => e = .returned (.tuple #[.agg (byteCells (parseD l)), .int .i64 (parseE l)]) ∧ Below w.heap.size w w' := by
  have hn := has_new w (zeroCells 32) 25 w.heap.size rfl
  by_cases hl : l.length = 64
  · go_enter Tryd.func20, Tryd.ntmps20
    go_wp2_with fail
    refine named (p := Code.wp _ _ _ _) ?_
    intro W0 hW0
    have hB : Below w.heap.size w W0 := by
      rw [hW0]; repeat (first | exact Below.refl _ _ | refine Below.alloc ?_ (by simp) _)
    have hR : Has W0 w.heap.size (zeroCells 32) 25 := by rw [hW0]; exact has_old hn
    have hD : Has W0 (w.heap.size + 1) (zeroCells 32) 25 := by rw [hW0]; exact has_new _ _ _ _ (by simp)
    clear hW0 hn
    have fin_bad : Hid (∀ i, i < 32 → okAt l i = false → byteCells (parseD l) = zeroCells 32 ∧ parseE l = 110) := fun i hi h => by
      have hg := good_not_at l i hi h
      exact ⟨by unfold parseD; rw [if_neg (by simp [hg]), byteCells_zero], by simp [parseE, hg]⟩
    go_loopw [14] (fun i wr => ∃ k : Nat, k ≤ 32 ∧ i = .int .i64 k ∧ Ex (w.heap.size + 1) W0 wr ∧ Hid (∀ i, i < k → okAt l i = true) ∧ ∃ c, Has wr (w.heap.size + 1) c 25 ∧ Upd (zeroCells 32) c 0 k (fun j => .int .u8 (bv (parseB l j)))) (fun i _ => 32 - (intOf i).toNat)
    case atStart => exact ⟨0, by omega, rfl, Ex.refl _ _, fun i hi => absurd hi (by omega), _, hD, Upd.zero _ _ _⟩
    case round =>
      obtain ⟨k, hk, rfl, hE, hok, c, hc, hU⟩ := hrel
      have hBr : Below w.heap.size w wr := Below.ex hB hB.size hE (by omega)
      have hRr := hR.ex hE (by omega)
      by_cases hk32 : k < 32
      · have ix := run_indexS l (2 * k) (2 * (k : Int)) (by omega) (by omega)
        have iy := run_indexS l (2 * k + 1) (2 * (k : Int) + 1) (by omega) (by omega)
        have i1 : (k : Int) < 32 := by omega
        have Hok : Hid (okAt l k = ((hexv (l[2 * k]?.getD 0)).2 && (hexv (l[2 * k + 1]?.getD 0)).2)) := rfl
        have Hpb : Hid (parseB l k = (hexv (l[2 * k]?.getD 0)).1 * 16 + (hexv (l[2 * k + 1]?.getD 0)).1) := rfl
        generalize l[2 * k]?.getD 0 = x at *
        generalize l[2 * k + 1]?.getD 0 = y at *
        by_cases hx : (hexv x).2 = true
        · by_cases hy : (hexv y).2 = true
          · have hxl := hexv_lt x hx
            have hyl := hexv_lt y hy
            obtain ⟨v0, hv0⟩ := Upd.ex hU k (by rw [zeroCells_size]; omega)
            have HO : Hid (okAt l k = true) := by show _ = _; rw [Hok.out, hx, hy]; rfl
            go_wp2_with (go_at_call 33; refine (value_any _ _).mono ?_; rintro e w' ⟨rfl, hw⟩; obtain rfl := hw.symm)
            refine named (p := fun X => Calls _ _ _ X _) ?_
            intro W2 hW2
            have hB2 : Below wr.heap.size wr W2 := by rw [hW2]; exact (Below.refl _ _).alloc (Nat.le_refl _) _
            have hn2 : Has W2 wr.heap.size #[.int .u8 (bv (hexv x).1), .int .u8 (bv (hexv y).1)] 5 := by rw [hW2]; exact has_new _ _ _ _ rfl
            clear hW2
            have hc2 := hc.below hB2 hc.lt
            have hcell := (hc2.cell k).trans hv0
            have hfree := hc2.free k
            refine (read8_any (hexv x).1 (hexv y).1 wr.heap.size 2 W2 hxl hyl (hn2.cell 0) (hn2.cell 1)).mono ?_
            rintro e w' ⟨rfl, hw⟩
            obtain rfl := hw.symm
            clear ix iy hv0
            go_wp2
            go_roundw
            case rel =>
              refine ⟨k + 1, by omega, by go_num, (hE.trans (Ex.below hB2)).trans (Ex.set _ _ _ _), fun i hi => ?_, _, hc2.set _ _, ?_⟩
              · by_cases e : i = k
                · subst e; exact HO.out
                · exact hok.out i (by omega)
              · have := hU.next (by rw [zeroCells_size]; omega) (.int .u8 (bv ((hexv x).1 * 16 + (hexv y).1))) (by rw [Hpb.out])
                rwa [Nat.zero_add] at this
            case measure => simp [intOf]; omega
          · have hy' : (hexv y).2 = false := by simpa using hy
            have HF : Hid (byteCells (parseD l) = zeroCells 32 ∧ parseE l = 110) := fin_bad.out k hk32 (by rw [Hok.out, hx, hy']; rfl)
            go_wp2_with (first
              | (go_at_call 33; refine (value_any _ _).mono ?_; rintro e w' ⟨rfl, hw⟩; obtain rfl := hw.symm)
              | refine wpList_store_row rfl 25 _ _ rfl w.heap.size (zeroCells 32) rfl rfl 25 _ hRr (by kernel_rfl) rfl (by kernel_rfl) ?_)
            refine bodyPost_ret (results_parse _ _ w.heap.size _ _ rfl rfl (setRow_heap _ _ _ _ _ _ hRr) rfl) rfl ?_
            exact ⟨by rw [HF.out.1, HF.out.2], hBr.trans ⟨rfl, rfl, rfl, by simp, fun j hj => setRow_other _ _ _ _ (by omega)⟩⟩
        · have hx' : (hexv x).2 = false := by simpa using hx
          have HF : Hid (byteCells (parseD l) = zeroCells 32 ∧ parseE l = 110) := fin_bad.out k hk32 (by rw [Hok.out, hx']; rfl)
          go_wp2_with (first
            | (go_at_call 33; refine (value_any _ _).mono ?_; rintro e w' ⟨rfl, hw⟩; obtain rfl := hw.symm)
            | refine wpList_store_row rfl 25 _ _ rfl w.heap.size (zeroCells 32) rfl rfl 25 _ hRr (by kernel_rfl) rfl (by kernel_rfl) ?_)
          refine bodyPost_ret (results_parse _ _ w.heap.size _ _ rfl rfl (setRow_heap _ _ _ _ _ _ hRr) rfl) rfl ?_
          exact ⟨by rw [HF.out.1, HF.out.2], hBr.trans ⟨rfl, rfl, rfl, by simp, fun j hj => setRow_other _ _ _ _ (by omega)⟩⟩
      · have ek : k = 32 := by omega
        subst ek
        have hgood := good_all l hl hok.out
        have hcs : c.size = 32 := by rw [hU.size, zeroCells_size]
        have hce : c = byteCells (parseD l) := cells_eq c _ 32 (parseD_length l) hcs (fun j hj => by
          rw [hU.at_ j, if_pos (by omega), parseD, if_pos hgood]; simp [hj])
        have HE : Hid (parseE l = 0) := by simp [parseE, hgood, Hid]
        have hone : c.all (·.oneCell') = true := by rw [hce]; exact byteCells_one _
        have HCE : Hid (c = byteCells (parseD l)) := hce
        clear hce
        go_wp2_with (first
          | refine wpList_load_row rfl 25 _ rfl (w.heap.size + 1) rfl 25 c (0, 0) _ hc Tryd.underlying25 rfl (by rw [hcs]; kernel_rfl) ?_
          | refine wpList_store_row rfl 25 _ _ rfl w.heap.size c rfl rfl 25 _ hRr (by rw [hcs]; kernel_rfl) (by rw [hcs, zeroCells_size]) hone ?_)
        refine bodyPost_ret (results_parse _ _ w.heap.size _ _ rfl rfl (setRow_heap _ _ _ _ _ _ hRr) hcs) rfl ?_
        exact ⟨by rw [HE.out, ← HCE.out], hBr.trans ⟨rfl, rfl, rfl, by simp, fun j hj => setRow_other _ _ _ _ (by omega)⟩⟩
  · have hl' : ((l.length : Int) != 64) = true := by rw [bne_iff_ne]; omega
    have hg := good_not_len l hl
    have e1 : parseD l = List.replicate 32 0 := by simp [parseD, hg]
    have e2 : parseE l = 110 := by simp [parseE, hg]
    rw [e1, e2, byteCells_zero]
    clear e1 e2 hg
    go_enter Tryd.func20, Tryd.ntmps20
    go_wp2_with (refine wpList_store_row rfl 25 _ _ rfl w.heap.size (zeroCells 32) rfl rfl 25 _ (has_old hn) (by kernel_rfl) rfl (by kernel_rfl) ?_)
    refine bodyPost_ret (results_parse _ _ w.heap.size _ _ rfl rfl (setRow_heap _ _ _ _ _ _ (has_old hn)) rfl) rfl ?_
    exact ⟨rfl, (((Below.refl _ _).alloc (Nat.le_refl _) _).alloc (by simp) _).trans ⟨rfl, rfl, rfl, by simp, fun j hj => setRow_other _ _ _ _ (by omega)⟩⟩
end Go.Proofs.YtkcngkkjlnadiaaDoor
