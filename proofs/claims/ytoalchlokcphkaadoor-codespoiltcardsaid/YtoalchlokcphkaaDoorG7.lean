/- The document's Read: of bytes that have their mark, and as many instructions as they say. -/
import Derived.Test.YtoalchlokcphkaaDoorG6
import Derived.Test.YtoalchlokcphkaaDoorG2
namespace Go.Proofs.YtoalchlokcphkaaDoor
open Go.RowKit

/-- How Read stands. -/
structure RI (w W : World) (pb : Nat) (ctx : Nat) (sv : Value) (l : List Ins) : Prop where
  res : Has W w.heap.size #[.int .i64 0, .slice none 0 0] 24
  box : Has W pb #[.int .i64 ctx, sv] 24
  own : OwnI (w.heap.size + 1) W sv l
  bel : Below w.heap.size w W
  gt : w.heap.size < pb
theorem RI.below {w W W' : World} {pb ctx : Nat} {sv : Value} {l : List Ins} (h : RI w W pb ctx sv l) (k : Below W.heap.size W W') : RI w W' pb ctx sv l :=
  ⟨h.res.below k h.res.lt, h.box.below k h.box.lt, h.own.below k, h.bel.trans (k.mono h.bel.size), h.gt⟩
/-- Behind an append, and a store of what it answered. -/
theorem RI.app {w W W' : World} {pb ctx : Nat} {sv sv' : Value} {l l' : List Ins} (h : RI w W pb ctx sv l) (k : W.grownBy W' sv.ownBlock) (ho : OwnI (w.heap.size + 1) W' sv' l') :
    Has W' pb #[.int .i64 ctx, sv] 24 ∧ Below w.heap.size w W' ∧ RI w (W'.setCell ⟨pb, 1, none⟩ sv') pb ctx sv' l' := by
  have hf := grown_fr k
  have h2 : Has W' w.heap.size #[.int .i64 0, .slice none 0 0] 24 := h.res.fr hf (fun e => by obtain ⟨_, cs, h1⟩ := h.own.blk e; exact has_ne h1 h.res (by decide) rfl)
  have h3 : Has W' pb #[.int .i64 ctx, sv] 24 := h.box.fr hf (fun e => by obtain ⟨_, cs, h1⟩ := h.own.blk e; exact has_ne h1 h.box (by decide) rfl)
  have h4 : Below w.heap.size w W' := Fr.below h.bel hf h.bel.size (fun g hg e => by have := (h.own.blk e).1; omega)
  have hE := Ex.set pb W' 1 sv'
  have hgt := h.gt
  refine ⟨h3, h4, ⟨h2.ex hE (by omega), h3.set 1 sv', ho.fr (Fr.of_ex hE) (fun g hg e => ?_), Below.ex h4 h4.size hE (by omega), hgt⟩⟩
  obtain ⟨_, cs, hc⟩ := ho.blk hg
  exact has_ne hc h3 (by decide) e
theorem drop_eight {d : List UInt8} {p : Nat} {y0 y1 y2 y3 y4 y5 y6 y7 : UInt8} {r2 : List UInt8} (h : d.drop p = y0 :: y1 :: y2 :: y3 :: y4 :: y5 :: y6 :: y7 :: r2) :
    d[p]? = some y0 ∧ d[p + 1]? = some y1 ∧ (d.drop (p + 2)).take 2 = [y2, y3] ∧ (d.drop (p + 4)).take 4 = [y4, y5, y6, y7] ∧ d.drop (p + 8) = r2 := by
  have e : ∀ j, d.drop (p + j) = (d.drop p).drop j := fun j => by rw [List.drop_drop]
  have g : ∀ j, d[p + j]? = (d.drop p)[j]? := fun j => by rw [List.getElem?_drop]
  refine ⟨?_, ?_, ?_, ?_, ?_⟩
  · have := g 0; rw [Nat.add_zero] at this; rw [this, h]; rfl
  · rw [g, h]; rfl
  · rw [e, h]; rfl
  · rw [e, h]; rfl
  · rw [e, h]; rfl
set_option maxRecDepth 10000 in
set_option maxHeartbeats 2000000 in
theorem rread_yes (v : Value) (x2 x3 x4 x5 : UInt8) (r : List UInt8) (w : World) (hv : Bytes w v (67 :: 88 :: x2 :: x3 :: x4 :: x5 :: r)) (hr : r.length = 8 * numL [x4, x5]) (E : Int) (hE : chkE (numL [x2, x3] : Nat) (insesL r) = E) :
    Calls Tryd.prog 18 #[v] w fun e w' => (E = 0 → ∃ sv, e = .returned (.tuple #[.agg #[.int .i64 (numL [x2, x3] : Nat), sv], .int .i64 0]) ∧ Prg w' sv (insesL r)) ∧ (E ≠ 0 → e = .returned (.tuple #[.agg #[.int .i64 0, .slice none 0 0], .int .i64 E])) ∧ Below w.heap.size w w' := by
  obtain ⟨W0, hW0⟩ : ∃ W0, W0 = w.alloc (.cells #[.int .i64 0, .slice none 0 0] 24) := ⟨_, rfl⟩
  have hB0 : Below w.heap.size w W0 := by rw [hW0]; exact (Below.refl _ _).alloc (Nat.le_refl _) _
  have hR0 : Has W0 w.heap.size #[.int .i64 0, .slice none 0 0] 24 := by rw [hW0]; exact has_new _ _ _ _ rfl
  obtain ⟨d, hd⟩ : ∃ d, d = 67 :: 88 :: x2 :: x3 :: x4 :: x5 :: r := ⟨_, rfl⟩
  rw [← hd] at hv
  have hlen : (insesL r).length = numL [x4, x5] := (body_inses _ r hr).2.1
  obtain ⟨n, hn⟩ : ∃ n, n = d.length := ⟨_, rfl⟩
  have hn6 : n = r.length + 6 := by rw [hn, hd]; simp
  obtain ⟨a, c, b, o, rfl, hc, ha, hin, hb⟩ := hv
  obtain rfl := ha (by rw [hd]; simp)
  have hinB : ∀ W, Below w.heap.size w W → BytesIn W b o d := fun W hB j hj => (hB.cell (p := ⟨b, o + j, none⟩) hb).trans (hin j hj)
  have h0 := hinB W0 hB0
  have c0 : W0.cell? ⟨b, o, none⟩ = some (.int .u8 67) := by have := h0 0 (by omega); rw [hd] at this; exact this
  have c1 : W0.cell? ⟨b, o + 1, none⟩ = some (.int .u8 88) := by have := h0 1 (by omega); rw [hd] at this; exact this
  have hmid : ∀ W (k : Nat) (x : List UInt8), Below w.heap.size w W → (d.drop k).take x.length = x → k + x.length ≤ n → ∀ (m c' o' : Nat) (a : Option Addr), m = x.length → x.length ≤ c' → a = some ⟨b, o', none⟩ → o' = o + k → Bytes W (.slice a m c') x := fun W k x hB h1 h2 m c' o' a h3 h4 h5 h6 => bytes_mid (hinB W hB) (Nat.lt_of_lt_of_le hb hB.size) k x h1 (by omega) m c' o' a h3 h4 h5 h6
  have n4 := hmid W0 4 [x4, x5] hB0 (by rw [hd]; rfl) (by show 4 + 2 ≤ n; omega)
  have n2 := hmid W0 2 [x2, x3] hB0 (by rw [hd]; rfl) (by show 2 + 2 ≤ n; omega)
  have hq := numL_two x4 x5
  have hcx := numL_two x2 x3
  have hdr : d.drop 6 = r := by rw [hd]; rfl
  rw [← hn] at hc ⊢
  have hnc : n ≤ c := hc
  have hn6' : ¬ (n : Int) < 6 := by omega
  have m4 := rnum_any (.slice (some ⟨b, o + 4, none⟩) 2 (c - 4)) [x4, x5] W0 (n4 _ _ _ _ rfl (by show 2 ≤ c - 4; omega) rfl rfl) (by show 2 ≤ 4; decide)
  have m2 := rnum_any (.slice (some ⟨b, o + 2, none⟩) 2 (c - 2)) [x2, x3] W0 (n2 _ _ _ _ rfl (by show 2 ≤ c - 2; omega) rfl rfl) (by show 2 ≤ 4; decide)
  generalize numL [x4, x5] = q at *
  generalize numL [x2, x3] = ctx at *
  obtain ⟨L, hL⟩ : ∃ L, L = insesL r := ⟨_, rfl⟩
  rw [← hL] at hE hlen ⊢
  have HH : Hid (n = d.length ∧ n = 8 * q + 6 ∧ r.length = 8 * q ∧ d.drop 6 = r ∧ insesL r = L ∧ chkE ctx L = E ∧ L.length = q) := ⟨hn, by omega, hr, hdr, hL.symm, hE, hlen⟩
  have hnq : (n : Int) = 6 + 8 * (q : Int) := by omega
  have hnb : n ≤ 600000 := by omega
  have hB0' := hB0
  rw [hW0] at c0 c1
  clear hr hE hdr hn hn6 hL hd hlen n4 n2 h0 hin ha
  go_enter Tryd.func18, Tryd.ntmps18
  go_wp2_with fail
  rw [← hW0]
  refine m4.mono ?_
  rintro e w' ⟨rfl, rfl⟩
  clear c0 c1 m4
  clear hW0
  clear hnq
  go_wp2_with fail
  refine m2.mono ?_
  rintro e w'' ⟨rfl, hw''⟩
  clear m2
  obtain rfl := hw''.symm
  clear hw''
  go_wp2_with fail
  refine named (p := fun X => Code.wp _ _ _ _ X) ?_
  intro W3 hW3
  have hB3 : Below w'.heap.size w' W3 := by rw [hW3]; exact (Below.refl _ _).alloc (Nat.le_refl _) _
  have hX3 : Has W3 w'.heap.size #[.int .i64 ctx, .slice none 0 0] 24 := by rw [hW3]; exact has_new _ _ _ _ rfl
  have hI3 : RI w W3 w'.heap.size ctx (.slice none 0 0) [] := ⟨hR0.below hB3 hR0.lt, hX3, OwnI.nil _ _, hB0.trans (hB3.mono hB0.size), hR0.lt⟩
  clear hW3 hB3 hX3 hR0 hB0 hB0'
  generalize w'.heap.size = pb at *
  go_loopw [5] (fun iv wr => ∃ (p k : Nat) (sv : Value) (l : List Ins), k ≤ q ∧ p = 6 + 8 * k ∧ iv = .int .i64 (p : Nat) ∧ l.length = k ∧ RI w wr pb ctx sv l ∧ l ++ insesL (d.drop p) = L ∧ (d.drop p).length = 8 * (q - k)) (fun iv _ => n - (intOf iv).toNat)
  case atStart => exact ⟨6, 0, _, [], Nat.zero_le _, rfl, rfl, rfl, hI3, by rw [HH.out.2.2.2.1]; exact HH.out.2.2.2.2.1, by rw [HH.out.2.2.2.1]; exact HH.out.2.2.1⟩
  case round =>
    obtain ⟨p, k, sv, l, hk, hp, rfl, hlk, hI, hcat, hdl⟩ := hrel
    have HC : Hid (l ++ insesL (d.drop p) = L) := hcat
    have HR : Hid ((d.drop p).length = 8 * (q - k) ∧ l.length = k ∧ p = 6 + 8 * k) := ⟨hdl, hlk, hp⟩
    clear hcat hdl hlk hp hI3
    obtain ⟨sa, sc, hsv⟩ := hI.own.slice
    by_cases hlt : k < q
    · have hpn : p + 8 ≤ n := by have := HH.out.2.1; have := HR.out.2.2; omega
      have hpn' : (p : Int) < n := by omega
      obtain ⟨y0, y1, y2, y3, y4, y5, y6, y7, r2, hy⟩ := eight_of (d := d.drop p) (by have := HR.out.1; omega)
      obtain ⟨t0, t1, t2, t4, t8⟩ := drop_eight hy
      rw [hy, insesL_cons] at HC
      rw [hy] at HR
      have hBw := hI.bel
      have y0c : wr.cell? ⟨b, o + p, none⟩ = some (.int .u8 (bv y0)) := by have := hinB wr hBw p (by have := HH.out.1; omega); rw [this, t0]; rfl
      have y1c : wr.cell? ⟨b, o + (p + 1), none⟩ = some (.int .u8 (bv y1)) := by have := hinB wr hBw (p + 1) (by have := HH.out.1; omega); rw [this, t1]; rfl
      have k2 := hmid wr (p + 2) [y2, y3] hBw t2 (by show p + 2 + 2 ≤ n; omega)
      have k4 := fun W hB => hmid W (p + 4) [y4, y5, y6, y7] hB t4 (by show p + 4 + 4 ≤ n; omega)
      have hnum2 : ∀ (m c' o' : Nat) (a : Option Addr), m = 2 → 2 ≤ c' → a = some ⟨b, o', none⟩ → o' = o + (p + 2) → Calls Tryd.prog 29 #[.slice a m c'] wr fun e w' => e = .returned (.int .i64 (numL [y2, y3] : Nat)) ∧ w' = wr := fun m c' o' a h1 h2 h3 h4 => rnum_any _ _ wr (k2 m c' o' a h1 h2 h3 h4) (by show 2 ≤ 4; decide)
      have hnum4 : ∀ W, Below w.heap.size w W → ∀ (m c' o' : Nat) (a : Option Addr), m = 4 → 4 ≤ c' → a = some ⟨b, o', none⟩ → o' = o + (p + 4) → Calls Tryd.prog 29 #[.slice a m c'] W fun e w' => e = .returned (.int .i64 (numL [y4, y5, y6, y7] : Nat)) ∧ w' = W := fun W hB m c' o' a h1 h2 h3 h4 => rnum_any _ _ W (k4 W hB m c' o' a h1 h2 h3 h4) (by show 4 ≤ 4; decide)
      have HY : Hid (d.drop (p + 8) = r2 ∧ r2.length = 8 * (q - (k + 1))) := ⟨t8, by have := HR.out.1; simp at this; omega⟩
      have s2 := numL_two y2 y3
      have s4 := numL_four y4 y5 y6 y7
      have HI : Hid (insOf y0 y1 y2 y3 y4 y5 y6 y7 = ⟨y0.toNat, (y1.toNat / 16 : Nat), (y1.toNat % 16 : Nat), sext (numL [y2, y3]), numL [y4, y5, y6, y7]⟩) := rfl
      generalize insOf y0 y1 y2 y3 y4 y5 y6 y7 = i at *
      generalize numL [y2, y3] = m2 at *
      generalize numL [y4, y5, y6, y7] = m4 at *
      have t0 : Hid (d[p]? = some y0) := t0
      have t1 : Hid (d[p + 1]? = some y1) := t1
      clear k2 k4 t2 t4 t8 hy
      have HK : Hid (k < q) := hlt
      clear hlt
      obtain ⟨sn, hsn⟩ : ∃ sn, sn = l.length := ⟨_, rfl⟩
      have HS : Hid (sn = l.length) := hsn
      rw [← hsn] at hsv
      clear hsn
      subst hsv
      have hz1 := bv_nonneg y1
      have hz2 := bv_lt y1
      have hz3 := bv_nonneg y0
      have hz4 := bv_lt y0
      go_wp2_with fail
      refine (hnum2 _ _ _ _ rfl (by omega) rfl rfl).mono ?_
      rintro e w'' ⟨rfl, hw⟩
      obtain rfl := hw.symm
      clear hw hnum2
      by_cases hbig : 32768 ≤ m2
      · have hbig' : (32768 : Int) ≤ m2 := by omega
        have HB : Hid (¬ m2 < 32768) := by show ¬ _; omega
        go_wp2_with fail
        have hID := hI.below (W' := wr.drew) (Below.refl _ _).drew
        have hS0 : (fun X => X.cell? ⟨pb, 1, none⟩ = some (.slice sa sn sc) ∧ X.cell? ⟨b, o + p, none⟩ = some (.int .u8 (bv y0)) ∧ X.cell? ⟨b, o + (p + 1), none⟩ = some (.int .u8 (bv y1))) wr.drew := ⟨hID.box.cell 1, y0c, y1c⟩
        refine wp_region_K (S := fun X => X.cell? ⟨pb, 1, none⟩ = some (.slice sa sn sc) ∧ X.cell? ⟨b, o + p, none⟩ = some (.int .u8 (bv y0)) ∧ X.cell? ⟨b, o + (p + 1), none⟩ = some (.int .u8 (bv y1))) (fun i => decide (i < 34)) (by kernel_rfl) ?_
        refine K_take (i := 0) (v := .pointer (some ⟨pb, 1, none⟩)) rfl (by kernel_rfl) (by kernel_rfl) (by kernel_rfl) (by kernel_rfl) (by kernel_rfl) (by kernel_rfl) (fun w' hS => by go_simp) hS0 ?_
        refine K_take (i := 1) (v := .slice sa sn sc) rfl (by kernel_rfl) (by kernel_rfl) (by kernel_rfl) (by kernel_rfl) (by kernel_rfl) (by kernel_rfl) (fun w' hS => by obtain ⟨g0, g1, g2⟩ := hS; go_simp) hS0 ?_
        refine K_take (i := 2) (v := .slice (some ⟨b, o, none⟩) n c) rfl (by kernel_rfl) (by kernel_rfl) (by kernel_rfl) (by kernel_rfl) (by kernel_rfl) (by kernel_rfl) (fun w' hS => by go_simp) hS0 ?_
        refine K_take (i := 3) (v := .int .i64 (p : Int)) rfl (by kernel_rfl) (by kernel_rfl) (by kernel_rfl) (by kernel_rfl) (by kernel_rfl) (by kernel_rfl) (fun w' hS => by go_simp) hS0 ?_
        refine K_take (i := 4) (v := .pointer (some ⟨b, o + p, none⟩)) rfl (by kernel_rfl) (by kernel_rfl) (by kernel_rfl) (by kernel_rfl) (by kernel_rfl) (by kernel_rfl) (fun w' hS => by go_simp) hS0 ?_
        refine K_take (i := 5) (v := .int .u8 (bv y0)) rfl (by kernel_rfl) (by kernel_rfl) (by kernel_rfl) (by kernel_rfl) (by kernel_rfl) (by kernel_rfl) (fun w' hS => by obtain ⟨g0, g1, g2⟩ := hS; go_simp) hS0 ?_
        refine K_take (i := 6) (v := .int .i64 (bv y0)) rfl (by kernel_rfl) (by kernel_rfl) (by kernel_rfl) (by kernel_rfl) (by kernel_rfl) (by kernel_rfl) (fun w' hS => by go_simp; rw [IntKind.wrap_i64]; omega) hS0 ?_
        refine K_take (i := 7) (v := .slice (some ⟨b, o, none⟩) n c) rfl (by kernel_rfl) (by kernel_rfl) (by kernel_rfl) (by kernel_rfl) (by kernel_rfl) (by kernel_rfl) (fun w' hS => by go_simp) hS0 ?_
        refine K_take (i := 8) (v := .int .i64 (p : Int)) rfl (by kernel_rfl) (by kernel_rfl) (by kernel_rfl) (by kernel_rfl) (by kernel_rfl) (by kernel_rfl) (fun w' hS => by go_simp) hS0 ?_
        refine K_take (i := 9) (v := .int .i64 ((p : Int) + 1)) rfl (by kernel_rfl) (by kernel_rfl) (by kernel_rfl) (by kernel_rfl) (by kernel_rfl) (by kernel_rfl) (fun w' hS => by go_simp; rw [IntKind.wrap_i64]; omega) hS0 ?_
        refine K_take (i := 10) (v := .pointer (some ⟨b, o + (p + 1), none⟩)) rfl (by kernel_rfl) (by kernel_rfl) (by kernel_rfl) (by kernel_rfl) (by kernel_rfl) (by kernel_rfl) (fun w' hS => by go_simp; intro h; exact absurd (h (by omega)) (by omega)) hS0 ?_
        refine K_take (i := 11) (v := .int .u8 (bv y1)) rfl (by kernel_rfl) (by kernel_rfl) (by kernel_rfl) (by kernel_rfl) (by kernel_rfl) (by kernel_rfl) (fun w' hS => by obtain ⟨g0, g1, g2⟩ := hS; go_simp) hS0 ?_
        refine K_take (i := 12) (v := .int .i64 (bv y1)) rfl (by kernel_rfl) (by kernel_rfl) (by kernel_rfl) (by kernel_rfl) (by kernel_rfl) (by kernel_rfl) (fun w' hS => by go_simp; rw [IntKind.wrap_i64]; omega) hS0 ?_
        refine K_take (i := 13) (v := .int .i64 (bv y1 / 16)) rfl (by kernel_rfl) (by kernel_rfl) (by kernel_rfl) (by kernel_rfl) (by kernel_rfl) (by kernel_rfl) (fun w' hS => by go_simp; rw [Int.tdiv_eq_ediv_of_nonneg hz1, IntKind.wrap_i64]; omega) hS0 ?_
        refine K_take (i := 14) (v := .slice (some ⟨b, o, none⟩) n c) rfl (by kernel_rfl) (by kernel_rfl) (by kernel_rfl) (by kernel_rfl) (by kernel_rfl) (by kernel_rfl) (fun w' hS => by go_simp) hS0 ?_
        refine K_take (i := 15) (v := .int .i64 (p : Int)) rfl (by kernel_rfl) (by kernel_rfl) (by kernel_rfl) (by kernel_rfl) (by kernel_rfl) (by kernel_rfl) (fun w' hS => by go_simp) hS0 ?_
        refine K_take (i := 16) (v := .int .i64 ((p : Int) + 1)) rfl (by kernel_rfl) (by kernel_rfl) (by kernel_rfl) (by kernel_rfl) (by kernel_rfl) (by kernel_rfl) (fun w' hS => by go_simp; rw [IntKind.wrap_i64]; omega) hS0 ?_
        refine K_take (i := 17) (v := .pointer (some ⟨b, o + (p + 1), none⟩)) rfl (by kernel_rfl) (by kernel_rfl) (by kernel_rfl) (by kernel_rfl) (by kernel_rfl) (by kernel_rfl) (fun w' hS => by go_simp; intro h; exact absurd (h (by omega)) (by omega)) hS0 ?_
        refine K_take (i := 18) (v := .int .u8 (bv y1)) rfl (by kernel_rfl) (by kernel_rfl) (by kernel_rfl) (by kernel_rfl) (by kernel_rfl) (by kernel_rfl) (fun w' hS => by obtain ⟨g0, g1, g2⟩ := hS; go_simp) hS0 ?_
        refine K_take (i := 19) (v := .int .i64 (bv y1)) rfl (by kernel_rfl) (by kernel_rfl) (by kernel_rfl) (by kernel_rfl) (by kernel_rfl) (by kernel_rfl) (fun w' hS => by go_simp; rw [IntKind.wrap_i64]; omega) hS0 ?_
        refine K_take (i := 20) (v := .int .i64 (bv y1 % 16)) rfl (by kernel_rfl) (by kernel_rfl) (by kernel_rfl) (by kernel_rfl) (by kernel_rfl) (by kernel_rfl) (fun w' hS => by go_simp; rw [Int.tmod_eq_emod_of_nonneg hz1]) hS0 ?_
        refine K_take (i := 21) (v := .int .i64 ((m2 : Int) - 65536)) rfl (by kernel_rfl) (by kernel_rfl) (by kernel_rfl) (by kernel_rfl) (by kernel_rfl) (by kernel_rfl) (fun w' hS => by go_simp) hS0 ?_
        refine K_take (i := 22) (v := .slice (some ⟨b, o, none⟩) n c) rfl (by kernel_rfl) (by kernel_rfl) (by kernel_rfl) (by kernel_rfl) (by kernel_rfl) (by kernel_rfl) (fun w' hS => by go_simp) hS0 ?_
        refine K_take (i := 23) (v := .int .i64 (p : Int)) rfl (by kernel_rfl) (by kernel_rfl) (by kernel_rfl) (by kernel_rfl) (by kernel_rfl) (by kernel_rfl) (fun w' hS => by go_simp) hS0 ?_
        refine K_take (i := 24) (v := .int .i64 ((p : Int) + 4)) rfl (by kernel_rfl) (by kernel_rfl) (by kernel_rfl) (by kernel_rfl) (by kernel_rfl) (by kernel_rfl) (fun w' hS => by go_simp; rw [IntKind.wrap_i64]; omega) hS0 ?_
        refine K_take (i := 25) (v := .int .i64 (p : Int)) rfl (by kernel_rfl) (by kernel_rfl) (by kernel_rfl) (by kernel_rfl) (by kernel_rfl) (by kernel_rfl) (fun w' hS => by go_simp) hS0 ?_
        refine K_take (i := 26) (v := .int .i64 ((p : Int) + 8)) rfl (by kernel_rfl) (by kernel_rfl) (by kernel_rfl) (by kernel_rfl) (by kernel_rfl) (by kernel_rfl) (fun w' hS => by go_simp; rw [IntKind.wrap_i64]; omega) hS0 ?_
        refine K_take (i := 27) (v := .slice (some ⟨b, o + (p + 4), none⟩) 4 (c - (p + 4))) rfl (by kernel_rfl) (by kernel_rfl) (by kernel_rfl) (by kernel_rfl) (by kernel_rfl) (by kernel_rfl) (fun w' hS => by go_simp; rw [if_pos (by omega), if_pos (by omega), show ((p : Int) + 4).toNat = p + 4 by omega, show ((p : Int) + 8).toNat = p + 8 by omega, if_neg (by omega), show p + 8 - (p + 4) = 4 by omega]) hS0 ?_
        refine K_next (i := 28) (by kernel_rfl) rfl (by kernel_rfl) (fun K hK => ?_)
        go_simp
        refine (hnum4 wr.drew hID.bel _ _ _ _ rfl (by omega) rfl rfl).mono ?_
        rintro e W5 ⟨rfl, hW5⟩
        have hS5 : (fun X => X.cell? ⟨pb, 1, none⟩ = some (.slice sa sn sc) ∧ X.cell? ⟨b, o + p, none⟩ = some (.int .u8 (bv y0)) ∧ X.cell? ⟨b, o + (p + 1), none⟩ = some (.int .u8 (bv y1))) W5 := by rw [hW5]; exact hS0
        have hID5 : RI w W5 pb ctx (.slice sa sn sc) l := by rw [hW5]; exact hID
        refine hK _ _ (fun _ => hS5) ?_
        clear hK hW5 hS0 hID
        refine K_take (i := 29) (v := .int .u32 (m4 : Int)) rfl (by kernel_rfl) (by kernel_rfl) (by kernel_rfl) (by kernel_rfl) (by kernel_rfl) (by kernel_rfl) (fun w' hS => by go_simp; rw [IntKind.wrap_u32]; omega) hS5 ?_
        refine K_take (i := 30) (v := .agg #[.int .i64 (bv y0), .int .i64 (bv y1 / 16), .int .i64 (bv y1 % 16), .int .i64 ((m2 : Int) - 65536), .int .u32 (m4 : Int)]) rfl (by kernel_rfl) (by kernel_rfl) (by kernel_rfl) (by kernel_rfl) (by kernel_rfl) (by kernel_rfl) (fun w' hS => by go_simp) hS5 ?_
        refine K_next (i := 31) (by kernel_rfl) rfl (by kernel_rfl) (fun K hK => ?_)
        go_simp
        obtain ⟨W6, hW6⟩ : ∃ W6, W6 = W5.alloc (.cells #[.int .i64 (bv y0), .int .i64 (bv y1 / 16), .int .i64 (bv y1 % 16), .int .i64 ((m2 : Int) - 65536), .int .u32 (m4 : Int)] 43) := ⟨_, rfl⟩
        have hH6 : Has W6 W5.heap.size i.cells.toArray 43 := by
          rw [hW6]
          have h := has_new W5 #[.int .i64 (bv y0), .int .i64 (bv y1 / 16), .int .i64 (bv y1 % 16), .int .i64 ((m2 : Int) - 65536), .int .u32 (m4 : Int)] 43 W5.heap.size rfl
          · have e : i.cells.toArray = #[.int .i64 (bv y0), .int .i64 (bv y1 / 16), .int .i64 (bv y1 % 16), .int .i64 ((m2 : Int) - 65536), .int .u32 (m4 : Int)] := by
              have e1 : sext m2 = ((m2 : Int) - 65536) := by unfold sext; have := HB.out; first | rw [if_neg this] | rw [if_pos this]
              rw [HI.out, ← e1]
              show #[Value.int .i64 (y0.toNat : Int), .int .i64 ((y1.toNat / 16 : Nat) : Int), .int .i64 ((y1.toNat % 16 : Nat) : Int), .int .i64 (sext m2), .int .u32 (m4 : Int)] = _
              rw [show ((y1.toNat / 16 : Nat) : Int) = bv y1 / 16 by unfold bv; omega, show ((y1.toNat % 16 : Nat) : Int) = bv y1 % 16 by unfold bv; omega]
              rfl
            rw [e]; exact h
        have hB6 : Below W5.heap.size W5 W6 := by rw [hW6]; exact (Below.refl _ _).alloc (Nat.le_refl _) _
        have hI6 := hID5.below hB6
        rw [← hW6]
        clear hW6
        have hcell : ∀ W, Below w.heap.size W5 W → W.cell? ⟨b, o + p, none⟩ = some (.int .u8 (bv y0)) ∧ W.cell? ⟨b, o + (p + 1), none⟩ = some (.int .u8 (bv y1)) := fun W hB => ⟨(hB.cell (p := ⟨b, o + p, none⟩) hb).trans hS5.2.1, (hB.cell (p := ⟨b, o + (p + 1), none⟩) hb).trans hS5.2.2⟩
        refine hK _ _ (fun _ => ⟨hI6.box.cell 1, hcell W6 (hB6.mono (show w.heap.size ≤ W5.heap.size from hID5.bel.size))⟩) ?_
        clear hK
        refine K_next (i := 32) (by kernel_rfl) rfl (by kernel_rfl) (fun K hK => ?_)
        refine wp_append_ins _ _ rfl (w.heap.size + 1) (.slice sa sn sc) l i W5.heap.size rfl rfl hI6.own hH6 (by have := HR.out.2.1; omega) (by have := hI6.res.lt; omega) ?_
        intro v7 W7 ho7 hg7
        obtain ⟨hX7, hB7, hI8⟩ := hI6.app hg7 ho7
        obtain ⟨a7, c7, hv7⟩ := ho7.slice
        obtain ⟨m7, hm7⟩ : ∃ m7, m7 = (l ++ [i]).length := ⟨_, rfl⟩
        rw [← hm7] at hv7
        clear hm7
        subst hv7
        have hS7 : (fun X => X.cell? ⟨pb, 1, none⟩ = some (.slice sa sn sc) ∧ X.cell? ⟨b, o + p, none⟩ = some (.int .u8 (bv y0)) ∧ X.cell? ⟨b, o + (p + 1), none⟩ = some (.int .u8 (bv y1))) W7 := by
          refine ⟨hX7.cell 1, ?_, ?_⟩
          · have := hinB W7 hB7 p (by have := HH.out.1; omega); rw [this, t0.out]; rfl
          · have := hinB W7 hB7 (p + 1) (by have := HH.out.1; omega); rw [this, t1.out]; rfl
        refine hK _ _ (fun _ => hS7) ?_
        have c7 := hX7.cell 1
        have f7 := hX7.free 1
        clear hK hI6 ho7 hg7 hX7 hH6 hcell hB6 hB7
        refine K_next (i := 33) (by kernel_rfl) rfl (by kernel_rfl) (fun K hK => ?_)
        go_simp
        refine hK _ _ (fun _ => hS7) ?_
        clear hK
        refine K_next (i := 34) (by kernel_rfl) rfl (by kernel_rfl) (fun K hK => ?_)
        go_simp
        refine hK _ _ (fun h => absurd h (by decide)) (K_done (by kernel_rfl) ?_)
        clear hK c7 f7 hS7 hS5 hID5 y0c y1c hnum4
        refine named (p := fun X => Exit.inBlock 1 _ _ _ X) ?_
        intro W8 hW8
        rw [← hW8] at hI8
        clear hW8
        go_wp2_with fail
        go_roundw
        case rel =>
          refine ⟨p + 8, k + 1, _, l ++ [i], HK.out, by have := HR.out.2.2; omega, by go_num, by rw [List.length_append, HR.out.2.1]; rfl, hI8, ?_, ?_⟩
          · rw [HY.out.1, ← HC.out]; simp
          · rw [HY.out.1]; exact HY.out.2
        case measure => simp [intOf]; omega
      · have hbig' : decide ((32768 : Int) ≤ m2) = false := by simp; omega
        have HB : Hid (m2 < 32768) := by show _ < _; omega
        clear hbig
        go_wp2_with fail
        have hID := hI.below (W' := wr.drew) (Below.refl _ _).drew
        have hS0 : (fun X => X.cell? ⟨pb, 1, none⟩ = some (.slice sa sn sc) ∧ X.cell? ⟨b, o + p, none⟩ = some (.int .u8 (bv y0)) ∧ X.cell? ⟨b, o + (p + 1), none⟩ = some (.int .u8 (bv y1))) wr.drew := ⟨hID.box.cell 1, y0c, y1c⟩
        refine wp_region_K (S := fun X => X.cell? ⟨pb, 1, none⟩ = some (.slice sa sn sc) ∧ X.cell? ⟨b, o + p, none⟩ = some (.int .u8 (bv y0)) ∧ X.cell? ⟨b, o + (p + 1), none⟩ = some (.int .u8 (bv y1))) (fun i => decide (i < 34)) (by kernel_rfl) ?_
        refine K_take (i := 0) (v := .pointer (some ⟨pb, 1, none⟩)) rfl (by kernel_rfl) (by kernel_rfl) (by kernel_rfl) (by kernel_rfl) (by kernel_rfl) (by kernel_rfl) (fun w' hS => by go_simp) hS0 ?_
        refine K_take (i := 1) (v := .slice sa sn sc) rfl (by kernel_rfl) (by kernel_rfl) (by kernel_rfl) (by kernel_rfl) (by kernel_rfl) (by kernel_rfl) (fun w' hS => by obtain ⟨g0, g1, g2⟩ := hS; go_simp) hS0 ?_
        refine K_take (i := 2) (v := .slice (some ⟨b, o, none⟩) n c) rfl (by kernel_rfl) (by kernel_rfl) (by kernel_rfl) (by kernel_rfl) (by kernel_rfl) (by kernel_rfl) (fun w' hS => by go_simp) hS0 ?_
        refine K_take (i := 3) (v := .int .i64 (p : Int)) rfl (by kernel_rfl) (by kernel_rfl) (by kernel_rfl) (by kernel_rfl) (by kernel_rfl) (by kernel_rfl) (fun w' hS => by go_simp) hS0 ?_
        refine K_take (i := 4) (v := .pointer (some ⟨b, o + p, none⟩)) rfl (by kernel_rfl) (by kernel_rfl) (by kernel_rfl) (by kernel_rfl) (by kernel_rfl) (by kernel_rfl) (fun w' hS => by go_simp) hS0 ?_
        refine K_take (i := 5) (v := .int .u8 (bv y0)) rfl (by kernel_rfl) (by kernel_rfl) (by kernel_rfl) (by kernel_rfl) (by kernel_rfl) (by kernel_rfl) (fun w' hS => by obtain ⟨g0, g1, g2⟩ := hS; go_simp) hS0 ?_
        refine K_take (i := 6) (v := .int .i64 (bv y0)) rfl (by kernel_rfl) (by kernel_rfl) (by kernel_rfl) (by kernel_rfl) (by kernel_rfl) (by kernel_rfl) (fun w' hS => by go_simp; rw [IntKind.wrap_i64]; omega) hS0 ?_
        refine K_take (i := 7) (v := .slice (some ⟨b, o, none⟩) n c) rfl (by kernel_rfl) (by kernel_rfl) (by kernel_rfl) (by kernel_rfl) (by kernel_rfl) (by kernel_rfl) (fun w' hS => by go_simp) hS0 ?_
        refine K_take (i := 8) (v := .int .i64 (p : Int)) rfl (by kernel_rfl) (by kernel_rfl) (by kernel_rfl) (by kernel_rfl) (by kernel_rfl) (by kernel_rfl) (fun w' hS => by go_simp) hS0 ?_
        refine K_take (i := 9) (v := .int .i64 ((p : Int) + 1)) rfl (by kernel_rfl) (by kernel_rfl) (by kernel_rfl) (by kernel_rfl) (by kernel_rfl) (by kernel_rfl) (fun w' hS => by go_simp; rw [IntKind.wrap_i64]; omega) hS0 ?_
        refine K_take (i := 10) (v := .pointer (some ⟨b, o + (p + 1), none⟩)) rfl (by kernel_rfl) (by kernel_rfl) (by kernel_rfl) (by kernel_rfl) (by kernel_rfl) (by kernel_rfl) (fun w' hS => by go_simp; intro h; exact absurd (h (by omega)) (by omega)) hS0 ?_
        refine K_take (i := 11) (v := .int .u8 (bv y1)) rfl (by kernel_rfl) (by kernel_rfl) (by kernel_rfl) (by kernel_rfl) (by kernel_rfl) (by kernel_rfl) (fun w' hS => by obtain ⟨g0, g1, g2⟩ := hS; go_simp) hS0 ?_
        refine K_take (i := 12) (v := .int .i64 (bv y1)) rfl (by kernel_rfl) (by kernel_rfl) (by kernel_rfl) (by kernel_rfl) (by kernel_rfl) (by kernel_rfl) (fun w' hS => by go_simp; rw [IntKind.wrap_i64]; omega) hS0 ?_
        refine K_take (i := 13) (v := .int .i64 (bv y1 / 16)) rfl (by kernel_rfl) (by kernel_rfl) (by kernel_rfl) (by kernel_rfl) (by kernel_rfl) (by kernel_rfl) (fun w' hS => by go_simp; rw [Int.tdiv_eq_ediv_of_nonneg hz1, IntKind.wrap_i64]; omega) hS0 ?_
        refine K_take (i := 14) (v := .slice (some ⟨b, o, none⟩) n c) rfl (by kernel_rfl) (by kernel_rfl) (by kernel_rfl) (by kernel_rfl) (by kernel_rfl) (by kernel_rfl) (fun w' hS => by go_simp) hS0 ?_
        refine K_take (i := 15) (v := .int .i64 (p : Int)) rfl (by kernel_rfl) (by kernel_rfl) (by kernel_rfl) (by kernel_rfl) (by kernel_rfl) (by kernel_rfl) (fun w' hS => by go_simp) hS0 ?_
        refine K_take (i := 16) (v := .int .i64 ((p : Int) + 1)) rfl (by kernel_rfl) (by kernel_rfl) (by kernel_rfl) (by kernel_rfl) (by kernel_rfl) (by kernel_rfl) (fun w' hS => by go_simp; rw [IntKind.wrap_i64]; omega) hS0 ?_
        refine K_take (i := 17) (v := .pointer (some ⟨b, o + (p + 1), none⟩)) rfl (by kernel_rfl) (by kernel_rfl) (by kernel_rfl) (by kernel_rfl) (by kernel_rfl) (by kernel_rfl) (fun w' hS => by go_simp; intro h; exact absurd (h (by omega)) (by omega)) hS0 ?_
        refine K_take (i := 18) (v := .int .u8 (bv y1)) rfl (by kernel_rfl) (by kernel_rfl) (by kernel_rfl) (by kernel_rfl) (by kernel_rfl) (by kernel_rfl) (fun w' hS => by obtain ⟨g0, g1, g2⟩ := hS; go_simp) hS0 ?_
        refine K_take (i := 19) (v := .int .i64 (bv y1)) rfl (by kernel_rfl) (by kernel_rfl) (by kernel_rfl) (by kernel_rfl) (by kernel_rfl) (by kernel_rfl) (fun w' hS => by go_simp; rw [IntKind.wrap_i64]; omega) hS0 ?_
        refine K_take (i := 20) (v := .int .i64 (bv y1 % 16)) rfl (by kernel_rfl) (by kernel_rfl) (by kernel_rfl) (by kernel_rfl) (by kernel_rfl) (by kernel_rfl) (fun w' hS => by go_simp; rw [Int.tmod_eq_emod_of_nonneg hz1]) hS0 ?_
        refine K_take (i := 21) (v := .int .i64 (m2 : Int)) rfl (by kernel_rfl) (by kernel_rfl) (by kernel_rfl) (by kernel_rfl) (by kernel_rfl) (by kernel_rfl) (fun w' hS => by go_simp) hS0 ?_
        refine K_take (i := 22) (v := .slice (some ⟨b, o, none⟩) n c) rfl (by kernel_rfl) (by kernel_rfl) (by kernel_rfl) (by kernel_rfl) (by kernel_rfl) (by kernel_rfl) (fun w' hS => by go_simp) hS0 ?_
        refine K_take (i := 23) (v := .int .i64 (p : Int)) rfl (by kernel_rfl) (by kernel_rfl) (by kernel_rfl) (by kernel_rfl) (by kernel_rfl) (by kernel_rfl) (fun w' hS => by go_simp) hS0 ?_
        refine K_take (i := 24) (v := .int .i64 ((p : Int) + 4)) rfl (by kernel_rfl) (by kernel_rfl) (by kernel_rfl) (by kernel_rfl) (by kernel_rfl) (by kernel_rfl) (fun w' hS => by go_simp; rw [IntKind.wrap_i64]; omega) hS0 ?_
        refine K_take (i := 25) (v := .int .i64 (p : Int)) rfl (by kernel_rfl) (by kernel_rfl) (by kernel_rfl) (by kernel_rfl) (by kernel_rfl) (by kernel_rfl) (fun w' hS => by go_simp) hS0 ?_
        refine K_take (i := 26) (v := .int .i64 ((p : Int) + 8)) rfl (by kernel_rfl) (by kernel_rfl) (by kernel_rfl) (by kernel_rfl) (by kernel_rfl) (by kernel_rfl) (fun w' hS => by go_simp; rw [IntKind.wrap_i64]; omega) hS0 ?_
        refine K_take (i := 27) (v := .slice (some ⟨b, o + (p + 4), none⟩) 4 (c - (p + 4))) rfl (by kernel_rfl) (by kernel_rfl) (by kernel_rfl) (by kernel_rfl) (by kernel_rfl) (by kernel_rfl) (fun w' hS => by go_simp; rw [if_pos (by omega), if_pos (by omega), show ((p : Int) + 4).toNat = p + 4 by omega, show ((p : Int) + 8).toNat = p + 8 by omega, if_neg (by omega), show p + 8 - (p + 4) = 4 by omega]) hS0 ?_
        refine K_next (i := 28) (by kernel_rfl) rfl (by kernel_rfl) (fun K hK => ?_)
        go_simp
        refine (hnum4 wr.drew hID.bel _ _ _ _ rfl (by omega) rfl rfl).mono ?_
        rintro e W5 ⟨rfl, hW5⟩
        have hS5 : (fun X => X.cell? ⟨pb, 1, none⟩ = some (.slice sa sn sc) ∧ X.cell? ⟨b, o + p, none⟩ = some (.int .u8 (bv y0)) ∧ X.cell? ⟨b, o + (p + 1), none⟩ = some (.int .u8 (bv y1))) W5 := by rw [hW5]; exact hS0
        have hID5 : RI w W5 pb ctx (.slice sa sn sc) l := by rw [hW5]; exact hID
        refine hK _ _ (fun _ => hS5) ?_
        clear hK hW5 hS0 hID
        refine K_take (i := 29) (v := .int .u32 (m4 : Int)) rfl (by kernel_rfl) (by kernel_rfl) (by kernel_rfl) (by kernel_rfl) (by kernel_rfl) (by kernel_rfl) (fun w' hS => by go_simp; rw [IntKind.wrap_u32]; omega) hS5 ?_
        refine K_take (i := 30) (v := .agg #[.int .i64 (bv y0), .int .i64 (bv y1 / 16), .int .i64 (bv y1 % 16), .int .i64 (m2 : Int), .int .u32 (m4 : Int)]) rfl (by kernel_rfl) (by kernel_rfl) (by kernel_rfl) (by kernel_rfl) (by kernel_rfl) (by kernel_rfl) (fun w' hS => by go_simp) hS5 ?_
        refine K_next (i := 31) (by kernel_rfl) rfl (by kernel_rfl) (fun K hK => ?_)
        go_simp
        obtain ⟨W6, hW6⟩ : ∃ W6, W6 = W5.alloc (.cells #[.int .i64 (bv y0), .int .i64 (bv y1 / 16), .int .i64 (bv y1 % 16), .int .i64 (m2 : Int), .int .u32 (m4 : Int)] 43) := ⟨_, rfl⟩
        have hH6 : Has W6 W5.heap.size i.cells.toArray 43 := by
          rw [hW6]
          have h := has_new W5 #[.int .i64 (bv y0), .int .i64 (bv y1 / 16), .int .i64 (bv y1 % 16), .int .i64 (m2 : Int), .int .u32 (m4 : Int)] 43 W5.heap.size rfl
          · have e : i.cells.toArray = #[.int .i64 (bv y0), .int .i64 (bv y1 / 16), .int .i64 (bv y1 % 16), .int .i64 (m2 : Int), .int .u32 (m4 : Int)] := by
              have e1 : sext m2 = (m2 : Int) := by unfold sext; have := HB.out; first | rw [if_neg this] | rw [if_pos this]
              rw [HI.out, ← e1]
              show #[Value.int .i64 (y0.toNat : Int), .int .i64 ((y1.toNat / 16 : Nat) : Int), .int .i64 ((y1.toNat % 16 : Nat) : Int), .int .i64 (sext m2), .int .u32 (m4 : Int)] = _
              rw [show ((y1.toNat / 16 : Nat) : Int) = bv y1 / 16 by unfold bv; omega, show ((y1.toNat % 16 : Nat) : Int) = bv y1 % 16 by unfold bv; omega]
              rfl
            rw [e]; exact h
        have hB6 : Below W5.heap.size W5 W6 := by rw [hW6]; exact (Below.refl _ _).alloc (Nat.le_refl _) _
        have hI6 := hID5.below hB6
        rw [← hW6]
        clear hW6
        have hcell : ∀ W, Below w.heap.size W5 W → W.cell? ⟨b, o + p, none⟩ = some (.int .u8 (bv y0)) ∧ W.cell? ⟨b, o + (p + 1), none⟩ = some (.int .u8 (bv y1)) := fun W hB => ⟨(hB.cell (p := ⟨b, o + p, none⟩) hb).trans hS5.2.1, (hB.cell (p := ⟨b, o + (p + 1), none⟩) hb).trans hS5.2.2⟩
        refine hK _ _ (fun _ => ⟨hI6.box.cell 1, hcell W6 (hB6.mono (show w.heap.size ≤ W5.heap.size from hID5.bel.size))⟩) ?_
        clear hK
        refine K_next (i := 32) (by kernel_rfl) rfl (by kernel_rfl) (fun K hK => ?_)
        refine wp_append_ins _ _ rfl (w.heap.size + 1) (.slice sa sn sc) l i W5.heap.size rfl rfl hI6.own hH6 (by have := HR.out.2.1; omega) (by have := hI6.res.lt; omega) ?_
        intro v7 W7 ho7 hg7
        obtain ⟨hX7, hB7, hI8⟩ := hI6.app hg7 ho7
        obtain ⟨a7, c7, hv7⟩ := ho7.slice
        obtain ⟨m7, hm7⟩ : ∃ m7, m7 = (l ++ [i]).length := ⟨_, rfl⟩
        rw [← hm7] at hv7
        clear hm7
        subst hv7
        have hS7 : (fun X => X.cell? ⟨pb, 1, none⟩ = some (.slice sa sn sc) ∧ X.cell? ⟨b, o + p, none⟩ = some (.int .u8 (bv y0)) ∧ X.cell? ⟨b, o + (p + 1), none⟩ = some (.int .u8 (bv y1))) W7 := by
          refine ⟨hX7.cell 1, ?_, ?_⟩
          · have := hinB W7 hB7 p (by have := HH.out.1; omega); rw [this, t0.out]; rfl
          · have := hinB W7 hB7 (p + 1) (by have := HH.out.1; omega); rw [this, t1.out]; rfl
        refine hK _ _ (fun _ => hS7) ?_
        have c7 := hX7.cell 1
        have f7 := hX7.free 1
        clear hK hI6 ho7 hg7 hX7 hH6 hcell hB6 hB7
        refine K_next (i := 33) (by kernel_rfl) rfl (by kernel_rfl) (fun K hK => ?_)
        go_simp
        refine hK _ _ (fun _ => hS7) ?_
        clear hK
        refine K_next (i := 34) (by kernel_rfl) rfl (by kernel_rfl) (fun K hK => ?_)
        go_simp
        refine hK _ _ (fun h => absurd h (by decide)) (K_done (by kernel_rfl) ?_)
        clear hK c7 f7 hS7 hS5 hID5 y0c y1c hnum4
        refine named (p := fun X => Exit.inBlock 1 _ _ _ X) ?_
        intro W8 hW8
        rw [← hW8] at hI8
        clear hW8
        go_wp2_with fail
        go_roundw
        case rel =>
          refine ⟨p + 8, k + 1, _, l ++ [i], HK.out, by have := HR.out.2.2; omega, by go_num, by rw [List.length_append, HR.out.2.1]; rfl, hI8, ?_, ?_⟩
          · rw [HY.out.1, ← HC.out]; simp
          · rw [HY.out.1]; exact HY.out.2
        case measure => simp [intOf]; omega
    · obtain rfl : k = q := by omega
      have hpn : p = n := by have := HH.out.2.1; have := HR.out.2.2; omega
      subst hpn
      have hd0 : d.drop p = [] := List.drop_eq_nil_of_le (by have := HH.out.1; omega)
      rw [hd0] at HC
      have HP : Hid (L = l) := by show _ = _; rw [← HC.out]; simp [insesL]
      have hP := hI.own.prg (by have := hI.res.lt; omega)
      have hX := hI.box
      obtain ⟨sn, hsn⟩ : ∃ sn, sn = l.length := ⟨_, rfl⟩
      rw [← hsn] at hsv
      clear hsn
      subst hsv
      have hck := rcheck_any ctx _ l wr hP (by have := HR.out.2.1; omega)
      rw [← HP.out, HH.out.2.2.2.2.2.1] at hck
      have x0 := hX.cell 0
      have x1 := hX.cell 1
      clear hlt hk hd0 HC hmid hinB
      go_wp2_with fail
      refine hck.mono ?_
      rintro e W4 ⟨rfl, hB4⟩
      have hI4 := hI.below hB4
      have hX4 := hI4.box
      have hR4 := hI4.res
      have hP4 := hP.below hB4
      have hBw4 := hI4.bel
      clear hck x0 x1 hX hI hP
      have x0 := hX4.cell 0
      have x1 := hX4.cell 1
      have r0 := hR4.cell 0
      have r1 := hR4.cell 1
      have f0 := hR4.free 0
      have f1 := hR4.free 1
      by_cases hE0 : E = 0
      · have hE' : (E != 0) = false := by simp [hE0]
        have HE0 : Hid (E = 0) := hE0
        clear hE0
        go_wp2_with fail
        refine bodyPost_ret (results_prog rfl _ _ w.heap.size _ _ rfl rfl (hR4.both _ _) rfl) rfl ?_
        refine ⟨fun _ => ⟨_, rfl, ?_⟩, fun h => absurd HE0.out h, Below.ex hBw4 hBw4.size (ex_both _ _ _ _) (Nat.le_refl _)⟩
        rw [HP.out]
        exact hP4.ex hR4 (by simp) (ex_both _ _ _ _)
      · have hE' : (E != 0) = true := by simpa using hE0
        have HE0 : Hid (¬ E = 0) := hE0
        clear hE0
        go_wp2_with fail
        refine bodyPost_ret (results_prog rfl _ _ w.heap.size _ _ rfl rfl (hR4.both _ _) rfl) rfl ?_
        exact ⟨fun h => absurd h HE0.out, fun _ => rfl, Below.ex hBw4 hBw4.size (ex_both _ _ _ _) (Nat.le_refl _)⟩
end Go.Proofs.YtoalchlokcphkaaDoor
