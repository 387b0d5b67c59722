/- MerkleHolds: the law's walk. -/
import Derived.Test.YtcmkjgodgocdfaaDoorZcW3
import Derived.Test.YtcmkjgodgocdfaaDoorZcW6
import Derived.Test.YtcmkjgodgocdfaaDoorZq6
namespace Go.Proofs.YtcmkjgodgocdfaaDoor
open Go.RowKit

/-- The frame at the loop's head: what the rounds hand on; the rest whatever it is. -/
def holdF (f : Nat → Value) (lv tv rv : Value) : Array Value := #[lv, f 1, f 2, tv, f 4, rv, f 6, f 7, f 8, f 9, f 10, f 11, f 12, f 13, f 14, f 15, f 16, f 17, f 18, f 19, f 20, f 21, f 22, f 23, f 24, f 25, f 26, f 27, f 28, f 29, f 30, f 31, f 32, f 33, f 34, f 35, f 36, f 37, f 38, f 39, f 40, f 41, f 42, f 43, f 44, f 45, f 46, f 47, f 48, f 49, f 50, f 51, f 52, f 53, f 54, f 55, f 56, f 57, f 58, f 59, f 60, f 61, f 62, f 63, f 64, f 65, f 66, f 67, f 68, f 69, f 70, f 71, f 72, f 73, f 74, f 75, f 76, f 77, f 78, f 79, f 80, f 81, f 82, f 83, f 84, f 85, f 86, f 87, f 88, f 89, f 90, f 91, f 92, f 93, f 94, f 95, f 96, f 97, f 98, f 99, f 100, f 101, f 102, f 103, f 104, f 105, f 106, f 107, f 108, f 109, f 110, f 111, f 112, f 113, f 114, f 115, f 116, f 117, f 118, f 119, f 120, f 121, f 122, f 123, f 124, f 125, f 126, f 127, f 128, f 129, f 130, f 131, f 132, f 133, f 134, f 135, f 136, f 137]
/-- Between two rounds. -/
def HoldI (n : Nat) (lv tv rv : Value) (W1 : World) (a : Act) (w : World) : Prop := ∃ (f : Nat → Value) (k : Nat) (Ds : List Nat), k ≤ n ∧ f 7 = .int .i64 (k : Int) ∧ a = { tmps := holdF f lv tv rv, defers := marksOf Ds } ∧ Below W1.heap.size W1 w ∧ Mrk W1.heap.size Ds w
theorem HoldI.of {n : Nat} {lv tv rv : Value} {W1 w : World} {T : Array Value} {ds : List Deferred} (k : Nat) (Ds : List Nat) (hT : T = holdF (fun i => T.getD i undef) lv tv rv) (h7 : T.getD 7 undef = .int .i64 (k : Int)) (hk : k ≤ n) (hd : ds = marksOf Ds) (hB : Below W1.heap.size W1 w) (hM : Mrk W1.heap.size Ds w) : HoldI n lv tv rv W1 { tmps := T, defers := ds } w :=
  ⟨fun i => T.getD i undef, k, Ds, hk, h7, by rw [← hT, hd], hB, hM⟩
/-- Between two rows. -/
structure HoI (W3 : World) (b C : Nat) (R : List (List Dig)) (rv : Value) (xs : List Value) (k : Nat) (W : World) : Prop where
  low : Below W3.heap.size W3 W
  dfr : W.heap[C - 2]? = some (.deferred (some []))
  rows : RowsAt C C W rv R xs
  last : ∃ sv, Has W b #[sv] 22 ∧ (0 < k → xs[k - 1]? = some sv)
  size : C ≤ W.heap.size
  blk : W3.heap.size ≤ b ∧ b + 2 < C
theorem HoI.ex {W3 W W' : World} {b C k : Nat} {R : List (List Dig)} {rv : Value} {xs : List Value} (h : HoI W3 b C R rv xs k W) (e : Ex (C - 1) W W') : HoI W3 b C R rv xs k W' := by
  obtain ⟨sv, h1, h2⟩ := h.last
  have hs := h.size
  have hb := h.blk
  exact ⟨h.low.trans (e.low (by omega) h.low.size), (e.block _ (by omega) (by omega)).trans h.dfr, h.rows.mid ((Frm.refl _ _).ex e (by omega)), ⟨sv, h1.ex e (by omega), h2⟩, Nat.le_trans hs e.size, h.blk⟩
theorem HoI.store {W3 W : World} {b C k : Nat} {R : List (List Dig)} {rv sv : Value} {xs : List Value} (h : HoI W3 b C R rv xs k W) (hsv : xs[k]? = some sv) : HoI W3 b C R rv xs (k + 1) (W.setCell ⟨b, 0, none⟩ sv) := by
  obtain ⟨s0, h1, _⟩ := h.last
  have hs := h.size
  have hb := h.blk
  have e := Ex.set b W 0 sv
  exact ⟨h.low.trans (e.low (by omega) h.low.size), (e.block _ (by omega) (by omega)).trans h.dfr, h.rows.mid ((Frm.refl _ _).ex e (by omega)), ⟨sv, h1.set 0 sv, fun _ => hsv⟩, Nat.le_trans hs e.size, h.blk⟩
set_option maxRecDepth 100000 in
set_option maxHeartbeats 4000000 in
theorem holds_ok (v : Value) (ds : List Dig) (w : World) (hv : Digs w v ds) (h0 : 0 < ds.length) (h16 : ds.length ≤ 16) (hg : Glob w) :
    Calls Tryd.prog 12 #[v] w fun e w' => e = .returned (.bool true) ∧ Below w.heap.size w w' := by
  have hgs := hg.size
  have hnew := tnew_any v ds w hv h0 h16
  have hPl : ∀ k : Nat, (pathOf ds k).length ≤ 17 := fun k => pathOf_le ds k h16
  have hpt := fun (k : Nat) (hk : k < ds.length) (B tb : Nat) (W : World) (h : TreeAt B W tb ds) (hg : Glob W) => path_ok h hg k hk
  have hst := fun (k : Nat) (hk : k < ds.length) W => steps_ok k ds.length hk h16 W
  have hup : ∀ (k : Nat) (hk : k < ds.length) pv W (hp : Digs W pv (pathOf ds k)) (hg : Glob W), Calls Tryd.prog 25 #[.agg (byteCells (ds[k]?.getD [])), .int .i64 (k : Int), .int .i64 (ds.length : Int), pv] W fun e w' => e = .returned (.tuple #[.agg (byteCells (rootOf ds)), .int .i64 0]) ∧ Below W.heap.size W w' := fun k hk pv W hp hg => by
    have := up_ok (ds[k]?.getD []) k ds.length pv (pathOf ds k) W (hv.1.at_ hk) hk h16 hp (pathOf_len ds k) hg
    rwa [pathOf_up ds k hk] at this
  have hR32 := (rootOf_spec (ds := ds) h0).2.1
  have hchk : ∀ (k : Nat) (hk : k < ds.length) pv W (hp : Digs W pv (pathOf ds k)) (hg : Glob W), Calls Tryd.prog 27 #[.agg (byteCells (rootOf ds)), .agg (byteCells (ds[k]?.getD [])), .int .i64 (k : Int), .int .i64 (ds.length : Int), pv] W fun e w' => e = .returned (.int .i64 0) ∧ Below W.heap.size W w' := fun k hk pv W hp hg => by
    have := check_any (rootOf ds) (ds[k]?.getD []) k ds.length pv (pathOf ds k) W hR32 (hv.1.at_ hk) hp hg
    have e1 := upE_path hk h16
    have e2 : upV (ds[k]?.getD []) (k : Int) (ds.length : Int) (pathOf ds k) = rootOf ds := by
      unfold upV; rw [if_pos e1, Int.toNat_natCast, Int.toNat_natCast, pathOf_up ds k hk]
    rw [e1, e2] at this
    have e3 : checkE 0 (rootOf ds == rootOf ds) = 0 := by simp [checkE]
    rwa [e3] at this
  have hchk2 : ∀ (k : Nat) (hk : k < ds.length) pv W (hp : Digs W pv (pathOf ds k ++ [rootOf ds])) (hg : Glob W), Calls Tryd.prog 27 #[.agg (byteCells (rootOf ds)), .agg (byteCells (ds[k]?.getD [])), .int .i64 (k : Int), .int .i64 (ds.length : Int), pv] W fun e w' => e = .returned (.int .i64 140) ∧ Below W.heap.size W w' := fun k hk pv W hp hg => by
    have := check_any (rootOf ds) (ds[k]?.getD []) k ds.length pv _ W hR32 (hv.1.at_ hk) hp hg
    have e1 := upE_path hk h16
    have e2 : upE (k : Int) (ds.length : Int) (pathOf ds k ++ [rootOf ds]).length = 140 := by
      unfold upE at e1 ⊢
      by_cases hE : stepsE (k : Int) (ds.length : Int) = 0
      · rw [if_pos hE] at e1 ⊢
        by_cases hV : stepsV (k : Int) (ds.length : Int) = ((pathOf ds k).length : Int)
        · rw [if_neg (by simp; omega)]
        · rw [if_neg hV] at e1; cases e1
      · rw [if_neg hE] at e1; exact absurd e1 hE
    rw [e2] at this
    exact this
  have hrow : (rowsL (ds.map markL))[(rowsL (ds.map markL)).length - 1]? = some [rootOf ds] := (rootOf_spec (ds := ds) h0).1
  have hrow0 : 0 < (rowsL (ds.map markL)).length := (rootOf_spec (ds := ds) h0).2.2
  have hseq := fun N l bt tb B W hT hb hg J Jx => rows1_any N l bt tb B ds W hT hb hg J Jx
  have hrt := fun (B tb : Nat) (W : World) (h : TreeAt B W tb ds) (hg : Glob W) => troot_any h hg
  have hleaf : ∀ (k : Nat), k < ds.length → ∃ leaf, ds[k]?.getD [] = leaf ∧ leaf.length = 32 := fun k hk => ⟨_, rfl, hv.1.at_ hk⟩
  obtain ⟨g0, o0, c0, rfl, _, hg0l⟩ := hv.at_ h0
  have hrg : ∀ (k : Nat), k < ds.length → w.rangeAt g0 (o0 + k * 32) (byteCells (ds[k]?.getD [])).toList := fun k hk => by
    obtain ⟨g', o', c', e, hr, _⟩ := hv.at_ hk
    simp only [Value.slice.injEq, Option.some.injEq, Addr.mk.injEq, and_true] at e
    obtain ⟨⟨rfl, rfl⟩, _, rfl⟩ := e
    exact hr
  obtain ⟨RR, hRR⟩ : ∃ RR, rootOf ds = RR := ⟨_, rfl⟩
  obtain ⟨RL, hRL⟩ : ∃ RL, rowsL (ds.map markL) = RL := ⟨_, rfl⟩
  simp only [hRR] at hup hR32 hchk hchk2 hrow hrt
  simp only [hRL] at hrow hrow0 hseq
  clear hRR hRL
  obtain ⟨n, hn⟩ : ∃ n, ds.length = n := ⟨_, rfl⟩
  simp only [hn] at h16 h0 hv hnew hpt hst hup hchk hchk2 hleaf hrg ⊢
  have HN : Hid (ds.length = n) := hn
  clear hn
  have hRs : (byteCells RR).size = 32 := by rw [byteCells_size, hR32]
  have hdn1 : decide ((n : Int) < 1) = false := by simp; omega
  have hdn2 : decide (16 < (n : Int)) = false := by simp; omega
  refine (callsIn_wide (n := 10)).1 ?_
  refine callsIn_of_wp_marks Tryd.func12 rfl trivial ?_ rfl
  simp only [Tryd.ntmps12, List.size_toArray, List.length_cons, List.length_nil, Nat.reduceAdd, Nat.reduceSub, Array.replicate_succ, Array.replicate_zero, List.push_toArray, List.append_toArray, List.nil_append, List.cons_append]
  refine wpIn_wide.2 ?_
  go_wp2_with fail
  refine hnew.mono ?_
  clear hnew
  rintro e Wa ⟨tb, rfl, hTa, hBa⟩
  have hga := hg.below hBa hg.size
  have hr := hrt _ tb Wa hTa hga
  clear hrt
  go_wp2_with fail
  refine hr.mono ?_
  clear hr
  rintro e Wb ⟨rfl, hBb⟩
  have hnb := has_new Wb (zeroCells 32) 30 Wb.heap.size rfl
  go_upto_region 5 with (refine wpList_store_row rfl 30 _ _ rfl Wb.heap.size (byteCells RR) rfl rfl 30 _ hnb (by rw [hRs]; kernel_rfl) (by rw [hRs, zeroCells_size]) (byteCells_one _) ?_)
  refine named (p := Code.wp _ _ _ _) ?_
  intro W1 hW1
  have hBb1 : Below Wb.heap.size Wb W1 := by
    rw [hW1]; exact ((Below.refl _ _).alloc (Nat.le_refl _) _).trans ⟨rfl, rfl, rfl, by simp, fun j hj => setRow_other _ _ _ _ (by omega)⟩
  have x5 : Has W1 Wb.heap.size (byteCells RR) 30 := by rw [hW1]; exact setRow_heap _ _ _ _ _ _ hnb
  clear hW1 hnb
  have hBa1 : Below Wa.heap.size Wa W1 := hBb.trans (hBb1.mono hBb.size)
  have hT1 := hTa.below hBa1
  have hB1 : Below w.heap.size w W1 := hBa.trans (hBa1.mono hBa.size)
  have hs1 := hB1.size
  obtain ⟨b5, hb5⟩ : ∃ b, Wb.heap.size = b := ⟨_, rfl⟩
  rw [hb5] at x5 ⊢
  clear hb5 hBa hBb hBb1 hBa1 hga
  go_wp2_with (go_at_call 20; refine (num_any _ _).mono ?_; rintro e w' ⟨rfl, hw⟩; obtain rfl := hw.symm)
  refine wp_loop (HoldI n (.slice (some ⟨g0, o0, none⟩) n c0) (.pointer (some ⟨tb, 0, none⟩)) (.pointer (some ⟨b5, 0, none⟩)) W1) (fun a _ => n - (intOf (a.tmps.getD 7 undef)).toNat) ?_ ?_
  · exact HoldI.of 0 [] (by kernel_rfl) (by kernel_rfl) (Nat.zero_le _) rfl (Below.refl _ _) (Mrk.nil _ _)
  · rintro a W3 ⟨f, k, Ds, hk, h7, rfl, hB13, hM⟩
    simp only [holdF, h7]
    have hBw3 : Below w.heap.size w W3 := hB1.trans (hB13.mono hs1)
    have hg3 := hg.below hBw3 hg.size
    have hT3 := hT1.below hB13
    have hs3 := hBw3.size
    by_cases hlt : k < n
    · have x5' := x5.below hB13 x5.lt
      have hp3 := hpt k hlt _ tb W3 hT3 hg3
      have hst3 := hst k hlt
      have hup3 := hup k hlt
      have hchk1 := hchk k hlt
      have hchk2 := hchk2 k hlt
      have hPk := hPl k
      have hPl2 := pathOf_len ds k
      rw [HN.out] at hPl2
      obtain ⟨leaf, hle, hl32⟩ := hleaf k hlt
      have hrg0 := hrg k hlt
      rw [hle] at hrg0
      simp only [hle] at hup3 hchk1 hchk2
      obtain ⟨P, hP⟩ : ∃ P, pathOf ds k = P := ⟨_, rfl⟩
      simp only [hP] at hp3 hup3 hchk1 hchk2 hPk hPl2
      clear hle hP hpt hst hup hchk hleaf
      have hrg3 := rangeAt_block hrg0 (hBw3.block g0 hg0l)
      have hg0l3 : g0 < W3.heap.size := Nat.lt_of_lt_of_le hg0l hs3
      obtain ⟨m, hm⟩ : ∃ m, P.length = m := ⟨_, rfl⟩
      rw [← hPl2, hm] at hst3
      rw [hm] at hPk
      have HM : Hid (P.length = m) := hm
      clear hm hPl2
      go_wp2_with fail
      refine hp3.mono ?_
      clear hp3
      rintro e W4 ⟨v8, rfl, ho8, hB34⟩
      obtain ⟨a8, c8, hv8⟩ := ho8.slice
      rw [HM.out] at hv8
      subst hv8
      have h48 : ∀ b, (Value.slice a8 m c8).ownBlock = some b → b < W4.heap.size := fun b hb => (ho8.2.lt b hb).2
      have hst4 := hst3 W4
      clear hst3
      go_wp2_with fail
      refine hst4.mono ?_
      clear hst4
      rintro e W5 ⟨rfl, hB45⟩
      have hB35 : Below W3.heap.size W3 W5 := hB34.trans (hB45.mono hB34.size)
      have ho5 := ho8.below hB45
      have hg5 := hg3.below hB35 hg3.size
      have hrg5 := rangeAt_block hrg3 (hB35.block g0 hg0l3)
      have hu5 := hup3 _ W5 (ho5.digs (by have := hg5.size; omega)) hg5
      go_wp2_with (refine wpList_load_mid rfl 30 _ rfl g0 (o0 + k * 32) rfl (byteCells leaf).toList _ hrg5 Tryd.underlying30 rfl (by rw [byteCells_len, hl32]; kernel_rfl) ?_)
      refine hu5.mono ?_
      clear hu5
      rintro e W6 ⟨rfl, hB56⟩
      have hn6 := has_new W6 (zeroCells 32) 30 W6.heap.size rfl
      go_upto_region 13 with (refine wpList_store_row rfl 30 _ _ rfl W6.heap.size (byteCells RR) rfl rfl 30 _ hn6 (by rw [hRs]; kernel_rfl) (by rw [hRs, zeroCells_size]) (byteCells_one _) ?_)
      refine named (p := Code.wp _ _ _ _) ?_
      intro W7 hW7
      have hB67 : Below W6.heap.size W6 W7 := by
        rw [hW7]; exact ((Below.refl _ _).alloc (Nat.le_refl _) _).trans ⟨rfl, rfl, rfl, by simp, fun j hj => setRow_other _ _ _ _ (by omega)⟩
      have z12 : Has W7 W6.heap.size (byteCells RR) 30 := by rw [hW7]; exact setRow_heap _ _ _ _ _ _ hn6
      clear hW7 hn6
      have hB57 : Below W5.heap.size W5 W7 := hB56.trans (hB67.mono hB56.size)
      have hB37 : Below W3.heap.size W3 W7 := hB35.trans (hB57.mono hB35.size)
      have ho7 := ho5.below hB57
      have hne8 : (Value.slice a8 m c8).ownBlock ≠ some W6.heap.size := fun e => by
        have := h48 _ e
        have := hB45.size
        have := hB56.size
        omega
      obtain ⟨b12, hb12⟩ : ∃ b, W6.heap.size = b := ⟨_, rfl⟩
      rw [hb12] at z12 hne8 ⊢
      clear hb12 hB56 hB67 hB57 hB35 ho5 hg5 hrg5 hB34 hB45 ho8 h48 hup3
      have hq : ∀ w, (Op.equalIn 10000 30 (.agg (byteCells RR)) (.agg (byteCells RR))).run Tryd.prog w = .ok true w := fun w => by have := eq_dig RR RR hR32 hR32 w; rwa [show (RR == RR) = true by simp] at this
      have hS7 : Below W3.heap.size W3 W7.drew := hB37.trans ((Below.refl _ _).drew)
      have hS12 : Has W7.drew b12 (byteCells RR) 30 := z12.below ((Below.refl _ _).drew) z12.lt
      have hS8 : OwnD W3.heap.size W7.drew (.slice a8 m c8) P := ho7.below ((Below.refl _ _).drew)
      have x5 := x5'
      clear x5' z12 ho7
      refine wp_region_K (S := fun X => Below W3.heap.size W3 X ∧ Has X b12 (byteCells RR) 30) (fun _ => true) (by kernel_rfl) ?_
      refine K_take (i := 0) (v := .int .i64 0) rfl (by kernel_rfl) (by kernel_rfl) (by kernel_rfl) (by kernel_rfl) (by kernel_rfl) (by kernel_rfl) (fun w' hS => by go_simp) ⟨hS7, hS12⟩ ?_
      refine K_take (i := 2) (v := .int .i64 0) rfl (by kernel_rfl) (by kernel_rfl) (by kernel_rfl) (by kernel_rfl) (by kernel_rfl) (by kernel_rfl) (fun w' hS => by go_simp) ⟨hS7, hS12⟩ ?_
      refine K_take (i := 5) (v := .int .i64 0) rfl (by kernel_rfl) (by kernel_rfl) (by kernel_rfl) (by kernel_rfl) (by kernel_rfl) (by kernel_rfl) (fun w' hS => by go_simp) ⟨hS7, hS12⟩ ?_
      refine K_next (i := 1) (by kernel_rfl) rfl (by kernel_rfl) (fun K hK => ?_)
      go_simp
      refine (num_any _ _).mono ?_
      rintro e w' ⟨rfl, hw⟩
      obtain rfl := hw.symm
      refine hK _ _ (fun _ => ⟨hS7, hS12⟩) ?_
      clear hK
      refine K_next (i := 3) (by kernel_rfl) rfl (by kernel_rfl) (fun K hK => ?_)
      go_simp
      refine (num_any _ _).mono ?_
      rintro e w' ⟨rfl, hw⟩
      obtain rfl := hw.symm
      refine hK _ _ (fun _ => ⟨hS7, hS12⟩) ?_
      clear hK
      refine K_take (i := 4) (v := .int .i64 0) rfl (by kernel_rfl) (by kernel_rfl) (by kernel_rfl) (by kernel_rfl) (by kernel_rfl) (by kernel_rfl) (fun w' hS => by first | (go_simp; done) | (go_simp; decide)) ⟨hS7, hS12⟩ ?_
      refine K_next (i := 6) (by kernel_rfl) rfl (by kernel_rfl) (fun K hK => ?_)
      go_simp
      refine (num_any _ _).mono ?_
      rintro e w' ⟨rfl, hw⟩
      obtain rfl := hw.symm
      refine hK _ _ (fun _ => ⟨hS7, hS12⟩) ?_
      clear hK
      refine K_take (i := 7) (v := .int .i64 0) rfl (by kernel_rfl) (by kernel_rfl) (by kernel_rfl) (by kernel_rfl) (by kernel_rfl) (by kernel_rfl) (fun w' hS => by first | (go_simp; done) | (go_simp; decide)) ⟨hS7, hS12⟩ ?_
      refine K_take (i := 8) (v := .bool false) rfl (by kernel_rfl) (by kernel_rfl) (by kernel_rfl) (by kernel_rfl) (by kernel_rfl) (by kernel_rfl) (fun w' hS => by go_simp) ⟨hS7, hS12⟩ ?_
      refine K_take (i := 9) (v := .bool false) rfl (by kernel_rfl) (by kernel_rfl) (by kernel_rfl) (by kernel_rfl) (by kernel_rfl) (by kernel_rfl) (fun w' hS => by go_simp) ⟨hS7, hS12⟩ ?_
      refine K_take (i := 10) (v := .slice a8 m c8) rfl (by kernel_rfl) (by kernel_rfl) (by kernel_rfl) (by kernel_rfl) (by kernel_rfl) (by kernel_rfl) (fun w' hS => by go_simp) ⟨hS7, hS12⟩ ?_
      refine K_take (i := 11) (v := .int .i64 ((m : Nat) : Int)) rfl (by kernel_rfl) (by kernel_rfl) (by kernel_rfl) (by kernel_rfl) (by kernel_rfl) (by kernel_rfl) (fun w' hS => by go_simp) ⟨hS7, hS12⟩ ?_
      refine K_take (i := 12) (v := .int .i64 ((m : Nat) : Int)) rfl (by kernel_rfl) (by kernel_rfl) (by kernel_rfl) (by kernel_rfl) (by kernel_rfl) (by kernel_rfl) (fun w' hS => by go_simp) ⟨hS7, hS12⟩ ?_
      refine K_take (i := 13) (v := .bool false) rfl (by kernel_rfl) (by kernel_rfl) (by kernel_rfl) (by kernel_rfl) (by kernel_rfl) (by kernel_rfl) (fun w' hS => by go_simp) ⟨hS7, hS12⟩ ?_
      refine K_take (i := 14) (v := .bool false) rfl (by kernel_rfl) (by kernel_rfl) (by kernel_rfl) (by kernel_rfl) (by kernel_rfl) (by kernel_rfl) (fun w' hS => by go_simp) ⟨hS7, hS12⟩ ?_
      refine K_take (i := 15) (v := .bool false) rfl (by kernel_rfl) (by kernel_rfl) (by kernel_rfl) (by kernel_rfl) (by kernel_rfl) (by kernel_rfl) (fun w' hS => by go_simp) ⟨hS7, hS12⟩ ?_
      refine K_take (i := 16) (v := .agg (byteCells RR)) rfl (by kernel_rfl) (by kernel_rfl) (by kernel_rfl) (by kernel_rfl) (by kernel_rfl) (by kernel_rfl) (fun w' hS => run_load_row _ rfl b12 (by kernel_rfl) RR hR32 hS.2) ⟨hS7, hS12⟩ ?_
      refine K_take (i := 17) (v := .agg (byteCells RR)) rfl (by kernel_rfl) (by kernel_rfl) (by kernel_rfl) (by kernel_rfl) (by kernel_rfl) (by kernel_rfl) (fun w' hS => run_load_row _ rfl b5 (by kernel_rfl) RR hR32 (x5.below hS.1 x5.lt)) ⟨hS7, hS12⟩ ?_
      refine K_take (i := 18) (v := .bool false) rfl (by kernel_rfl) (by kernel_rfl) (by kernel_rfl) (by kernel_rfl) (by kernel_rfl) (by kernel_rfl) (fun w' hS => by go_simp) ⟨hS7, hS12⟩ ?_
      refine K_take (i := 19) (v := .bool false) rfl (by kernel_rfl) (by kernel_rfl) (by kernel_rfl) (by kernel_rfl) (by kernel_rfl) (by kernel_rfl) (fun w' hS => by go_simp) ⟨hS7, hS12⟩ ?_
      refine K_take (i := 20) (v := .bool false) rfl (by kernel_rfl) (by kernel_rfl) (by kernel_rfl) (by kernel_rfl) (by kernel_rfl) (by kernel_rfl) (fun w' hS => by go_simp) ⟨hS7, hS12⟩ ?_
      refine K_take (i := 21) (v := .agg (byteCells RR)) rfl (by kernel_rfl) (by kernel_rfl) (by kernel_rfl) (by kernel_rfl) (by kernel_rfl) (by kernel_rfl) (fun w' hS => run_load_row _ rfl b5 (by kernel_rfl) RR hR32 (x5.below hS.1 x5.lt)) ⟨hS7, hS12⟩ ?_
      refine K_take (i := 22) (v := .slice (some ⟨g0, o0, none⟩) n c0) rfl (by kernel_rfl) (by kernel_rfl) (by kernel_rfl) (by kernel_rfl) (by kernel_rfl) (by kernel_rfl) (fun w' hS => by go_simp) ⟨hS7, hS12⟩ ?_
      refine K_take (i := 23) (v := .int .i64 ((k : Nat) : Int)) rfl (by kernel_rfl) (by kernel_rfl) (by kernel_rfl) (by kernel_rfl) (by kernel_rfl) (by kernel_rfl) (fun w' hS => by go_simp) ⟨hS7, hS12⟩ ?_
      refine K_take (i := 24) (v := .pointer (some ⟨g0, o0 + k * 32, none⟩)) rfl (by kernel_rfl) (by kernel_rfl) (by kernel_rfl) (by kernel_rfl) (by kernel_rfl) (by kernel_rfl) (fun w' hS => by go_simp) ⟨hS7, hS12⟩ ?_
      refine K_take (i := 25) (v := .agg (byteCells leaf)) rfl (by kernel_rfl) (by kernel_rfl) (by kernel_rfl) (by kernel_rfl) (by kernel_rfl) (by kernel_rfl) (fun w' hS => run_load_mid _ rfl g0 (o0 + k * 32) (by kernel_rfl) leaf hl32 (rangeAt_block hrg3 (hS.1.block g0 hg0l3))) ⟨hS7, hS12⟩ ?_
      refine K_take (i := 26) (v := .int .i64 ((k : Nat) : Int)) rfl (by kernel_rfl) (by kernel_rfl) (by kernel_rfl) (by kernel_rfl) (by kernel_rfl) (by kernel_rfl) (fun w' hS => by go_simp) ⟨hS7, hS12⟩ ?_
      refine K_take (i := 27) (v := .slice (some ⟨g0, o0, none⟩) n c0) rfl (by kernel_rfl) (by kernel_rfl) (by kernel_rfl) (by kernel_rfl) (by kernel_rfl) (by kernel_rfl) (fun w' hS => by go_simp) ⟨hS7, hS12⟩ ?_
      refine K_take (i := 28) (v := .int .i64 ((n : Nat) : Int)) rfl (by kernel_rfl) (by kernel_rfl) (by kernel_rfl) (by kernel_rfl) (by kernel_rfl) (by kernel_rfl) (fun w' hS => by go_simp) ⟨hS7, hS12⟩ ?_
      refine K_take (i := 29) (v := .slice a8 m c8) rfl (by kernel_rfl) (by kernel_rfl) (by kernel_rfl) (by kernel_rfl) (by kernel_rfl) (by kernel_rfl) (fun w' hS => by go_simp) ⟨hS7, hS12⟩ ?_
      refine K_next (i := 30) (by kernel_rfl) rfl (by kernel_rfl) (fun K hK => ?_)
      go_simp
      refine (hchk1 _ W7.drew (hS8.digs (by have := hS12.lt; omega)) (hg.below (hBw3.trans (hS7.mono hBw3.size)) hg.size)).mono ?_
      rintro e X1001 ⟨rfl, hb1002⟩
      have hB1003 : Below W3.heap.size W3 X1001 := hS7.trans (hb1002.mono hS7.size)
      have h121004 := hS12.below hb1002 hS12.lt
      have ho1006 := hS8.below hb1002
      refine hK _ _ (fun _ => ⟨hB1003, h121004⟩) ?_
      clear hK
      refine K_next (i := 31) (by kernel_rfl) rfl (by kernel_rfl) (fun K hK => ?_)
      go_simp
      refine (num_any _ _).mono ?_
      rintro e w' ⟨rfl, hw⟩
      obtain rfl := hw.symm
      refine hK _ _ (fun _ => ⟨hB1003, h121004⟩) ?_
      clear hK
      refine K_take (i := 32) (v := .bool false) rfl (by kernel_rfl) (by kernel_rfl) (by kernel_rfl) (by kernel_rfl) (by kernel_rfl) (by kernel_rfl) (fun w' hS => by go_simp) ⟨hB1003, h121004⟩ ?_
      refine K_take (i := 33) (v := .bool false) rfl (by kernel_rfl) (by kernel_rfl) (by kernel_rfl) (by kernel_rfl) (by kernel_rfl) (by kernel_rfl) (fun w' hS => by go_simp) ⟨hB1003, h121004⟩ ?_
      refine K_take (i := 34) (v := .bool false) rfl (by kernel_rfl) (by kernel_rfl) (by kernel_rfl) (by kernel_rfl) (by kernel_rfl) (by kernel_rfl) (fun w' hS => by go_simp) ⟨hB1003, h121004⟩ ?_
      refine K_take (i := 35) (v := .agg (byteCells RR)) rfl (by kernel_rfl) (by kernel_rfl) (by kernel_rfl) (by kernel_rfl) (by kernel_rfl) (by kernel_rfl) (fun w' hS => run_load_row _ rfl b5 (by kernel_rfl) RR hR32 (x5.below hS.1 x5.lt)) ⟨hB1003, h121004⟩ ?_
      refine K_take (i := 36) (v := .slice (some ⟨g0, o0, none⟩) n c0) rfl (by kernel_rfl) (by kernel_rfl) (by kernel_rfl) (by kernel_rfl) (by kernel_rfl) (by kernel_rfl) (fun w' hS => by go_simp) ⟨hB1003, h121004⟩ ?_
      refine K_take (i := 37) (v := .int .i64 ((k : Nat) : Int)) rfl (by kernel_rfl) (by kernel_rfl) (by kernel_rfl) (by kernel_rfl) (by kernel_rfl) (by kernel_rfl) (fun w' hS => by go_simp) ⟨hB1003, h121004⟩ ?_
      refine K_take (i := 38) (v := .pointer (some ⟨g0, o0 + k * 32, none⟩)) rfl (by kernel_rfl) (by kernel_rfl) (by kernel_rfl) (by kernel_rfl) (by kernel_rfl) (by kernel_rfl) (fun w' hS => by go_simp) ⟨hB1003, h121004⟩ ?_
      refine K_take (i := 39) (v := .agg (byteCells leaf)) rfl (by kernel_rfl) (by kernel_rfl) (by kernel_rfl) (by kernel_rfl) (by kernel_rfl) (by kernel_rfl) (fun w' hS => run_load_mid _ rfl g0 (o0 + k * 32) (by kernel_rfl) leaf hl32 (rangeAt_block hrg3 (hS.1.block g0 hg0l3))) ⟨hB1003, h121004⟩ ?_
      refine K_take (i := 40) (v := .int .i64 ((k : Nat) : Int)) rfl (by kernel_rfl) (by kernel_rfl) (by kernel_rfl) (by kernel_rfl) (by kernel_rfl) (by kernel_rfl) (fun w' hS => by go_simp) ⟨hB1003, h121004⟩ ?_
      refine K_take (i := 41) (v := .slice (some ⟨g0, o0, none⟩) n c0) rfl (by kernel_rfl) (by kernel_rfl) (by kernel_rfl) (by kernel_rfl) (by kernel_rfl) (by kernel_rfl) (fun w' hS => by go_simp) ⟨hB1003, h121004⟩ ?_
      refine K_take (i := 42) (v := .int .i64 ((n : Nat) : Int)) rfl (by kernel_rfl) (by kernel_rfl) (by kernel_rfl) (by kernel_rfl) (by kernel_rfl) (by kernel_rfl) (fun w' hS => by go_simp) ⟨hB1003, h121004⟩ ?_
      refine K_take (i := 43) (v := .slice a8 m c8) rfl (by kernel_rfl) (by kernel_rfl) (by kernel_rfl) (by kernel_rfl) (by kernel_rfl) (by kernel_rfl) (fun w' hS => by go_simp) ⟨hB1003, h121004⟩ ?_
      refine K_take (i := 44) (v := .agg (byteCells RR)) rfl (by kernel_rfl) (by kernel_rfl) (by kernel_rfl) (by kernel_rfl) (by kernel_rfl) (by kernel_rfl) (fun w' hS => run_load_row _ rfl b5 (by kernel_rfl) RR hR32 (x5.below hS.1 x5.lt)) ⟨hB1003, h121004⟩ ?_
      refine K_next (i := 45) (by kernel_rfl) rfl (by kernel_rfl) (fun K hK => ?_)
      refine op_run (run_build_one _ _ _ RR _ hR32 rfl (by kernel_rfl)) ?_
      have hb1007 : Below X1001.heap.size X1001 (X1001.alloc (.cells (byteCells RR) 30)) := (Below.refl _ _).alloc (Nat.le_refl _) _
      have hB1008 : Below W3.heap.size W3 (X1001.alloc (.cells (byteCells RR) 30)) := hB1003.trans (hb1007.mono hB1003.size)
      have h121009 := h121004.below hb1007 h121004.lt
      have ho1010 := ho1006.below hb1007
      have hd1011 := digs_one X1001 RR hR32
      refine hK _ _ (fun _ => ⟨hB1008, h121009⟩) ?_
      clear hK
      refine K_next (i := 46) (by kernel_rfl) rfl (by kernel_rfl) (fun K hK => ?_)
      refine wp_append_digs _ _ rfl W3.heap.size (.slice a8 m c8) _ _ [RR] (by kernel_rfl) (by kernel_rfl) ho1010 hd1011 (by have := HM.out; simp; omega) hB1008.size ?_
      intro v9 X1012 ho1015 hgr1016
      have hB1013 : Below W3.heap.size W3 X1012 := hB1008.trans (grown_low2 ho1010.2 hgr1016 hB1008.size)
      have h121014 : Has X1012 b12 (byteCells RR) 30 := (hgr1016.block b12 h121009.lt (fun e => hne8 (e.symm ▸ rfl))).trans h121009
      obtain ⟨a9, n9, c9, rfl⟩ : ∃ a n c, v9 = Value.slice a n c := by obtain ⟨a, c, e⟩ := ho1015.slice; exact ⟨a, _, c, e⟩
      refine hK _ _ (fun _ => ⟨hB1013, h121014⟩) ?_
      clear hK
      refine K_next (i := 47) (by kernel_rfl) rfl (by kernel_rfl) (fun K hK => ?_)
      go_simp
      refine (hchk2 _ X1012 (ho1015.digs (by have := h121014.lt; omega)) (hg.below (hBw3.trans (hB1013.mono hBw3.size)) hg.size)).mono ?_
      rintro e X1017 ⟨rfl, hb1018⟩
      have hB1019 : Below W3.heap.size W3 X1017 := hB1013.trans (hb1018.mono hB1013.size)
      have h121020 := h121014.below hb1018 h121014.lt
      have ho1022 := ho1015.below hb1018
      refine hK _ _ (fun _ => ⟨hB1019, h121020⟩) ?_
      clear hK
      refine K_next (i := 48) (by kernel_rfl) rfl (by kernel_rfl) (fun K hK => ?_)
      go_simp
      refine (num_any _ _).mono ?_
      rintro e w' ⟨rfl, hw⟩
      obtain rfl := hw.symm
      refine hK _ _ (fun _ => ⟨hB1019, h121020⟩) ?_
      clear hK
      refine K_take (i := 49) (v := .bool false) rfl (by kernel_rfl) (by kernel_rfl) (by kernel_rfl) (by kernel_rfl) (by kernel_rfl) (by kernel_rfl) (fun w' hS => by go_simp) ⟨hB1019, h121020⟩ ?_
      refine K_take (i := 50) (v := .bool false) rfl (by kernel_rfl) (by kernel_rfl) (by kernel_rfl) (by kernel_rfl) (by kernel_rfl) (by kernel_rfl) (fun w' hS => by go_simp) ⟨hB1019, h121020⟩ ?_
      refine K_done (by kernel_rfl) ?_
      refine named (p := fun X => Exit.then _ _ _ _ X) ?_
      intro W8 hW8
      have hB38 : Below W3.heap.size W3 W8 := by rw [hW8]; exact hB1019
      clear hW8
      go_simp
      clear hS7 hS12 hS8 hchk1 hchk2 hne8 hB37 hrg0
      have hBw8 : Below w.heap.size w W8 := hBw3.trans (hB38.mono hs3)
      have hg8 := hg.below hBw8 hg.size
      have x58 := x5.below hB38 x5.lt
      have hT8 := hT3.below hB38
      go_wp2_with (go_at_call 19; refine (trows_any _ _ rfl _).mono ?_; rintro e w' ⟨rfl, hw⟩; obtain rfl := hw.symm)
      refine (wpIn_wide (n := 10)).1 ?_
      refine named (p := Code.wpIn _ _ _ _ _ _) ?_
      intro W0 hW0
      have hz : W0.heap.size = W8.heap.size + 2 := by rw [hW0]; simp
      have hB80 : Below W8.heap.size W8 W0 := by
        rw [hW0]
        repeat (first | exact Below.refl _ _ | refine Below.alloc ?_ (by simp <;> omega) _)
      have z14 : Has W0 W8.heap.size #[.slice none 0 0] 22 := by
        rw [hW0]; repeat (first | (refine has_new _ _ _ _ ?_; simp; done) | refine has_old ?_)
      have zb : Has W0 (W8.heap.size + 1) #[.pointer (some ⟨tb, 0, none⟩)] 24 := by
        rw [hW0]; repeat (first | (refine has_new _ _ _ _ ?_; simp; done) | refine has_old ?_)
      clear hW0
      have hB30 : Below W3.heap.size W3 W0 := hB38.trans (hB80.mono hB38.size)
      have hs38 := hB38.size
      obtain ⟨z, hzz⟩ : ∃ z, W8.heap.size = z := ⟨_, rfl⟩
      rw [hzz] at hz z14 zb hs38 ⊢
      try simp only [Nat.add_assoc, Nat.reduceAdd]
      clear hzz hB80 hB38 hT8 hg8 hBw8 x58
      refine wp_range_leave (gf := 37) (lb := #[.pointer (some ⟨z + 1, 0, none⟩)]) rfl (Go.Proofs.enters_of Tryd.func37 (by kernel_rfl) rfl)
        (fun W => Below W3.heap.size W3 W ∧ W.heap[z + 2]? = some (.deferred (some [])) ∧ z + 4 ≤ W.heap.size ∧ ∃ sv, Has W z #[sv] 22 ∧ OwnD (z + 4) W sv [RR]) (fun _ _ => False) ?call ?done ?left
      case left => intro c W3 W4 h; exact h.elim
      case call =>
        intro fn Wc hB0c hzc hDc hlc
        rw [hz] at hB0c hzc hDc hlc ⊢
        have hB3c : Below W3.heap.size W3 Wc := hB30.trans (hB0c.mono (by omega))
        have hCz : Wc.heap.size = z + 4 := by omega
        refine (hseq 9 (z + 2 + 1) (z + 1) tb _ Wc (hT3.below hB3c) (zb.below hB0c (by omega)) (hg3.below hB3c hg3.size)
          (fun rv xs k W => W.heap[z + 2 + 1]? = Wc.heap[z + 2 + 1]? ∧ HoI W3 z (z + 4) RL rv xs k W) (fun _ => False) ?_ ?_ ?_).mono ?_
        · intro rv xs W' hRw hB'
          rw [hCz] at hRw hB'
          exact ⟨hB'.block _ (by omega), hB3c.trans (hB'.mono (by omega)), (hB'.block _ (by omega)).trans hDc, hRw, ⟨_, (z14.below hB0c (by omega)).below hB' (by omega), fun h => absurd h (Nat.lt_irrefl _)⟩, hCz ▸ hB'.size, by omega⟩
        · rintro rv xs k W' ⟨_, hI⟩
          rw [hCz]
          exact hI.rows.own
        · rintro rv xs k sv W hsv ⟨hrec, hI⟩
          rw [hlc] at hrec ⊢
          refine (yield_in (R := fun W' => W'.heap[z + 2 + 1]? = W.heap[z + 2 + 1]? ∧ HoI W3 z (z + 4) RL rv xs (k + 1) W') (Rx := fun _ _ => False) hrec rfl ?_).mono ?_
          · clear hrec hlc hseq hDc hB0c hzc hB3c hCz
            obtain ⟨sv', e1, e2⟩ := hI.rows.each k (by have := hI.rows.own.1; have := (List.getElem?_eq_some_iff.1 hsv).1; omega)
            obtain rfl : sv' = sv := Option.some.inj (e1.symm.trans hsv)
            obtain ⟨av, nv, cv, rfl⟩ : ∃ a n c, sv' = Value.slice a n c := by obtain ⟨a, c, e⟩ := e2.slice; exact ⟨a, _, c, e⟩
            clear e1 e2
            intro Rr RB hrr
            have HR : Hid (W.heap[z + 2 + 1]? = some Rr) := hrr
            clear hrr
            go_simp
            gi_wp2
            refine ⟨HR.out, ?_⟩
            intro W5 hE5 hs5 hl5
            have HL : Hid (W5.heap[z + 2 + 1]? = some RB) := hl5
            clear hl5
            have hI5 := hI.ex hE5
            obtain ⟨s0, hs0, _⟩ := hI5.last
            have cs := hs0.one
            have fs := hs0.free 0
            have hlt5 := hs0.lt
            have hsz5 := hI5.size
            go_simp
            gi_wp2
            rw [Oper.semAt_some _ _ _ (by intro c h; cases h)]
            go_simp
            gi_wp2
            have hX := Ex.set z W5 0 (.slice av nv cv)
            refine ⟨(hX.block _ (by omega) (by omega)).trans HL.out, fun W6 hE6 hs6 hl6 => ⟨hl6.trans HR.out.symm, (hI5.store hsv).ex hE6⟩⟩
          · rintro e W' (⟨rfl, h1, h2⟩ | ⟨_, _, _, h⟩)
            · exact .inl ⟨rfl, h1.trans hrec, h2⟩
            · exact h.elim
        · rintro e Wx ⟨rfl, ⟨rv, xs, hrec, hI⟩ | h⟩
          · obtain ⟨sv, h1, h2⟩ := hI.last
            obtain ⟨sv', e1, e2⟩ := hI.rows.each (RL.length - 1) (by omega)
            obtain rfl : sv' = sv := Option.some.inj (e1.symm.trans (h2 hrow0))
            rw [hrow, Option.getD_some] at e2
            exact ⟨⟨_, rfl⟩, .inl ⟨hrec, hI.low, hI.dfr, hI.size, _, h1, e2⟩⟩
          · exact h.elim
      case done =>
        rintro Wd We ⟨hd1, hd2, hd3, sv, hd4, hd5⟩ hE4 hs4
        rw [hz] at hE4 ⊢
        have hse := hE4.size
        have hBe : Below W3.heap.size W3 We := hd1.trans (hE4.low (by omega) hd1.size)
        have hDe : We.heap[z + 2]? = some (.deferred (some [])) := (hE4.block _ (by omega) (by omega)).trans hd2
        have z14 : Has We z #[sv] 22 := hd4.ex hE4 (by omega)
        have hoe := hd5.ex hE4 (by omega)
        have x5e := x5.below hBe x5.lt
        obtain ⟨gl, cl, hsv, _, hgll⟩ := hoe.blk (by simp)
        obtain ⟨g', o', c', e', hrgl, _⟩ := (hoe.digs (by omega)).at_ (i := 0) (by simp)
        rw [hsv] at e'
        simp only [Value.slice.injEq, Option.some.injEq, Addr.mk.injEq, and_true] at e'
        obtain ⟨⟨rfl, rfl⟩, _, _⟩ := e'
        rw [show (0 : Nat) + 0 * 32 = 0 from rfl, show ([RR][0]?.getD []) = RR from rfl] at hrgl
        rw [show ([RR] : List Dig).length = 1 from rfl] at hsv
        subst hsv
        have hSe : Below We.heap.size We We.drew := (Below.refl _ _).drew
        have hq : ∀ w, (Op.equalIn 10000 30 (.agg (byteCells RR)) (.agg (byteCells RR))).run Tryd.prog w = .ok true w := fun w => by have := eq_dig RR RR hR32 hR32 w; rwa [show (RR == RR) = true by simp] at this
        clear hd1 hd2 hd3 hd4 hd5 hE4 hs4 hseq hB30 zb hoe
        go_wp2_with fail
        refine wp_region_K (S := fun X => Below We.heap.size We X) (fun _ => true) (by kernel_rfl) ?_
        refine K_take (i := 0) (v := .slice (some ⟨gl, 0, none⟩) 1 cl) rfl (by kernel_rfl) (by kernel_rfl) (by kernel_rfl) (by kernel_rfl) (by kernel_rfl) (by kernel_rfl) (fun w' hS => by have y := (z14.below hS z14.lt).one; go_simp) hSe ?_
        refine K_take (i := 1) (v := .int .i64 1) rfl (by kernel_rfl) (by kernel_rfl) (by kernel_rfl) (by kernel_rfl) (by kernel_rfl) (by kernel_rfl) (fun w' hS => by go_simp) hSe ?_
        refine K_take (i := 2) (v := .bool false) rfl (by kernel_rfl) (by kernel_rfl) (by kernel_rfl) (by kernel_rfl) (by kernel_rfl) (by kernel_rfl) (fun w' hS => by go_simp) hSe ?_
        refine K_take (i := 3) (v := .bool false) rfl (by kernel_rfl) (by kernel_rfl) (by kernel_rfl) (by kernel_rfl) (by kernel_rfl) (by kernel_rfl) (fun w' hS => by go_simp) hSe ?_
        refine K_take (i := 4) (v := .slice (some ⟨gl, 0, none⟩) 1 cl) rfl (by kernel_rfl) (by kernel_rfl) (by kernel_rfl) (by kernel_rfl) (by kernel_rfl) (by kernel_rfl) (fun w' hS => by have y := (z14.below hS z14.lt).one; go_simp) hSe ?_
        refine K_take (i := 5) (v := .pointer (some ⟨gl, 0, none⟩)) rfl (by kernel_rfl) (by kernel_rfl) (by kernel_rfl) (by kernel_rfl) (by kernel_rfl) (by kernel_rfl) (fun w' hS => by go_simp) hSe ?_
        refine K_take (i := 6) (v := .agg (byteCells RR)) rfl (by kernel_rfl) (by kernel_rfl) (by kernel_rfl) (by kernel_rfl) (by kernel_rfl) (by kernel_rfl) (fun w' hS => run_load_mid _ rfl gl 0 (by kernel_rfl) RR hR32 (rangeAt_block hrgl (hS.block gl hgll))) hSe ?_
        refine K_take (i := 7) (v := .agg (byteCells RR)) rfl (by kernel_rfl) (by kernel_rfl) (by kernel_rfl) (by kernel_rfl) (by kernel_rfl) (by kernel_rfl) (fun w' hS => run_load_row _ rfl b5 (by kernel_rfl) RR hR32 (x5e.below hS x5e.lt)) hSe ?_
        refine K_take (i := 8) (v := .bool false) rfl (by kernel_rfl) (by kernel_rfl) (by kernel_rfl) (by kernel_rfl) (by kernel_rfl) (by kernel_rfl) (fun w' hS => by go_simp) hSe ?_
        refine K_take (i := 9) (v := .bool false) rfl (by kernel_rfl) (by kernel_rfl) (by kernel_rfl) (by kernel_rfl) (by kernel_rfl) (by kernel_rfl) (fun w' hS => by go_simp) hSe ?_
        refine K_done (by kernel_rfl) ?_
        go_simp
        go_wp2_with fail
        have hBd : Below W3.heap.size W3 We.drew := hBe.drew
        refine ⟨HoldI.of (k + 1) ((z + 2) :: Ds) (by kernel_rfl) (by show Value.int .i64 _ = Value.int .i64 _; congr 1) (by omega) rfl (hB13.trans (hBd.mono hB13.size)) ((hM.below hBd).cons (by have := hB13.size; omega) hDe (fun E hE => by have := hM.lt hE; omega)), ?_⟩
        simp [intOf]; omega
    · obtain rfl : k = n := by omega
      have hwk := works_any W3 hg3
      go_wp2_with (go_at_call 13; refine hwk.mono ?_; clear hwk; rintro e W4 ⟨rfl, hB4⟩)
      refine leaves_marks Ds W4 (hM.below hB4) fun w' hB' hs' => ?_
      exact ⟨_, results_tmp rfl _ _ _, rfl, (hBw3.trans (hB4.mono hBw3.size)).trans (hB'.mono hs1)⟩
set_option maxRecDepth 100000 in
set_option maxHeartbeats 1000000 in
theorem holds_walk (v : Value) (ds : List Dig) (w : World) (hv : Digs w v ds) (hg : Glob w) :
    Calls Tryd.prog 12 #[v] w fun e w' => e = .returned (.bool true) ∧ Below w.heap.size w w' := by
  by_cases h0 : 1 ≤ ds.length
  · by_cases h16 : ds.length ≤ 16
    · exact holds_ok v ds w hv h0 h16 hg
    · obtain ⟨a0, c0, rfl⟩ := hv.slice
      have hwk := works_any w hg
      refine (callsIn_wide (n := 10)).1 ?_
      refine callsIn_of_wp_marks Tryd.func12 rfl trivial ?_ rfl
      simp only [Tryd.ntmps12, List.size_toArray, List.length_cons, List.length_nil, Nat.reduceAdd, Nat.reduceSub, Array.replicate_succ, Array.replicate_zero, List.push_toArray, List.append_toArray, List.nil_append, List.cons_append]
      refine wpIn_wide.2 ?_
      go_wp2_with (go_at_call 13; refine hwk.mono ?_; clear hwk; rintro e W4 ⟨rfl, hB4⟩)
      exact ⟨_, results_tmp rfl _ _ _, rfl, hB4⟩
  · obtain ⟨a0, c0, rfl⟩ := hv.slice
    have hwk := works_any w hg
    refine (callsIn_wide (n := 10)).1 ?_
    refine callsIn_of_wp_marks Tryd.func12 rfl trivial ?_ rfl
    simp only [Tryd.ntmps12, List.size_toArray, List.length_cons, List.length_nil, Nat.reduceAdd, Nat.reduceSub, Array.replicate_succ, Array.replicate_zero, List.push_toArray, List.append_toArray, List.nil_append, List.cons_append]
    refine wpIn_wide.2 ?_
    go_wp2_with (go_at_call 13; refine hwk.mono ?_; clear hwk; rintro e W4 ⟨rfl, hB4⟩)
    exact ⟨_, results_tmp rfl _ _ _, rfl, hB4⟩
end Go.Proofs.YtcmkjgodgocdfaaDoor
