/- again: what is taken off bytes is laid as they are. -/
import Derived.Test.YtgoflpfafkmmgaaQ2
namespace Go.Proofs.Ytgoflpfafkmmgaa
open Go.RowKit

theorem InAp.after2 {S R : Nat → Prop} {w : World} {lv : Value} {b : List UInt8} {r at_ fl : Nat} (h : InAp S w lv b) (hR : Rd w r lv b at_ fl) (he : ∃ i, i < w.heap.size ∧ ¬ R i) (hs : ∀ k, k < w.heap.size → R k → S k) : BytesAp R w lv b := by
  rcases h with ⟨rfl, a, c, rfl⟩ | h
  · obtain ⟨i, hi, hn⟩ := he
    obtain ⟨a', c', _, _, e, h2, _⟩ := hR.by_
    exact ⟨a', c', i, 0, e, h2, fun h => absurd rfl h, fun j hj => absurd hj (by simp), hi, hn⟩
  · exact h.mono hs
def again1Φ (d : List UInt8) (s : ByteArray) (p : Nat) (ba : Option Addr) (bl bcap : Nat) : Nat → Value → World → Prop
  | 0, v, _ => v = .pointer (some ⟨p, 0, none⟩)
  | 1, v, w => Bytes w v d
  | 2, v, _ => v = .string s
  | 3, v, _ => v = .slice ba bl bcap
  | 4, v, _ => v = .string s
  | 5, v, _ => v = .bool true
  | 6, v, _ => v = .bool true
  | _, _, _ => False
def again2Φ (d : List UInt8) (s : ByteArray) (p r : Nat) (ba : Option Addr) (bl bcap av : Nat) : Nat → Value → World → Prop
  | 0, v, _ => v = .pointer (some ⟨r, 0, none⟩)
  | 1, v, _ => v = .int .i64 av
  | 2, v, _ => v = .slice ba bl bcap
  | 3, v, _ => v = .int .i64 bl
  | 4, v, _ => v = .bool true
  | 5, v, _ => v = .bool true
  | 6, v, _ => v = .pointer (some ⟨p, 0, none⟩)
  | 7, v, w => Bytes w v d
  | 8, v, _ => v = .string s
  | 9, v, _ => v = .slice ba bl bcap
  | 10, v, _ => v = .pointer (some ⟨r, 0, none⟩)
  | 11, v, _ => v = .int .i64 av
  | 12, v, _ => v = .slice ba av bcap
  | 13, v, _ => v = .string s
  | 14, v, _ => v = .bool true
  | 15, v, _ => v = .bool true
  | 16, v, _ => v = .bool true
  | _, _, _ => False
theorem Bytes.cut {w : World} {a : Option Addr} {c k : Nat} {b : List UInt8} (h : Bytes w (.slice a b.length c) b) (hk : k ≤ b.length) : Bytes w (.slice a k c) (b.take k) := by
  obtain ⟨a', c', db, o, e, hcap, ha, hin, hlt⟩ := h
  simp only [Value.slice.injEq] at e
  obtain ⟨rfl, _, rfl⟩ := e
  refine ⟨a, c, db, o, by rw [List.length_take, Nat.min_eq_left hk], by rw [List.length_take]; omega, fun hne => ha (by intro e; rw [e] at hne; simp at hne), fun j hj => ?_, hlt⟩
  rw [List.length_take] at hj
  have := hin j (by omega)
  rw [List.getElem?_take, if_pos (by omega)]
  exact this
theorem Bytes.cap {w : World} {a : Option Addr} {c : Nat} {b : List UInt8} (h : Bytes w (.slice a b.length c) b) : b.length ≤ c := by
  obtain ⟨a', c', db, o, e, hcap, ha, hin, hlt⟩ := h
  simp only [Value.slice.injEq] at e
  obtain ⟨rfl, _, rfl⟩ := e
  exact hcap
set_option maxRecDepth 100000 in
set_option maxHeartbeats 8000000 in
theorem again_any (bvv : Value) (b : List UInt8) (tv : Value) (ts : List (Int × Int)) (ta : Option Addr) (tcap tb to_ : Nat) (w : World) (hB : Bytes w bvv b) (hT : Takes w tv ts ta tcap tb to_) (hb : b.length ≤ 2000) :
    Calls Try.prog 37 #[bvv, tv] w fun e w' => e = .returned (.bool true) ∧ Below w.heap.size w w' := by
  obtain rfl := hT.val
  have hlen := hT.len
  unfold maxLen at hlen
  have h0 : 0 < w.heap.size := by obtain ⟨_, _, _, _, _, _, _, _, h⟩ := hB; omega
  obtain ⟨ba, bcap, bb, bo, hbv, _⟩ := id hB
  subst hbv
  have HT : Hid (Takes w (.slice ta ts.length tcap) ts ta tcap tb to_) := hT
  have HB : Hid (Bytes w (.slice ba b.length bcap) b) := hB
  clear hT hB
  go_enter Try.func37, Try.ntmps37
  go_wp2_with fail
  refine (readx_any _ b w HB.out (by omega)).mono ?_
  rintro e w1 ⟨r, lv0, rfl, hr, hR1, hB1, hI1⟩
  have hr1 := hR1.lt
  go_wp2_with fail
  refine (wnew_any w1).mono ?_
  rintro e w2 ⟨rfl, hB2, hW2⟩
  obtain ⟨N, hN⟩ : ∃ N, N = w.heap.size := ⟨_, rfl⟩
  obtain ⟨p, hp⟩ : ∃ p, p = w1.heap.size := ⟨_, rfl⟩
  have hA : Ag b N w r p w2 lv0 0 0 (.slice none 0 0) := by
    have hz := hB1.size
    have hap : BytesAp (RB r p) w1 lv0 b := hI1.after2 hR1 ⟨0, by omega, fun e => by unfold RB at e; omega⟩ (fun k hk e => by unfold RB at e; omega)
    refine ⟨hR1.below hB2, hap.fr (S' := fun _ => False) (Fr.of_below hB2) (fun _ _ h => h.elim), by rw [hp]; exact hW2, Nat.zero_le _, by rw [hN]; exact hB1.trans (hB2.mono hz), fun k hk => ?_, by omega, by omega⟩
    rcases hk with hk | hk
    · omega
    · cases hk
  have HNe : Hid (N = w.heap.size) := hN
  rw [← hp]
  clear hB1 hB2 hW2 hR1 hI1 hN hp
  go_wp2_with fail
  go_loopw [7] (fun i wr => ∃ (k : Nat) (lv : Value) (at_ fl : Nat) (v : Value), k ≤ ts.length ∧ i = .int .i64 k ∧ Ag b N w r p wr lv at_ fl v) (fun i _ => ts.length - (intOf i).toNat)
  case atStart => exact ⟨0, _, _, _, _, by omega, rfl, hA⟩
  case round =>
    clear hA
    obtain ⟨k, lv, at_, fl, v, hk, rfl, hAg⟩ := hrel
    by_cases hkl : k < ts.length
    · have i1 : (k : Int) < ts.length := by omega
      have hx : ts[k]? = some ts[k] := List.getElem?_eq_getElem hkl
      obtain rfl := HT.out.at_ (by intro e; simp [e] at hkl)
      have hblt : tb < N := by rw [HNe.out]; exact block_of_cell (HT.out.c0 k _ hx)
      have c0 := (hAg.below.cell (p := ⟨tb, to_ + k * 2, none⟩) hblt).trans (HT.out.c0 k _ hx)
      have c1 := (hAg.below.cell (p := ⟨tb, to_ + k * 2 + 1, none⟩) hblt).trans (HT.out.c1 k _ hx)
      generalize ts[k] = x at *
      obtain ⟨what, n⟩ := x
      simp only at c0 c1
      have HK : Hid (k < ts.length) := hkl
      have hat : at_ + (b.drop at_).length ≤ 10000000000 := by have := hAg.le; simp; omega
      clear hx
      by_cases hw0 : what = 0
      · subst hw0
        go_wp2_with fail
        refine named (p := fun X => Calls _ _ _ X _) ?_
        intro W0 hW0
        have hB0 : Below wr.heap.size wr W0 := by rw [hW0]; exact (Below.refl _ _).alloc (Nat.le_refl _) _
        clear hW0
        have hA0 := hAg.grow hB0
        clear hAg hB0
        by_cases hfl : fl = 0
        · subst hfl
          cases hX : bnd n (lnum n (b.drop at_)) with
          | error ec =>
            have hec : ¬ (ec : Int) = 0 := by have := bnd_ne hX (fun _ => lnum_ne); omega
            refine (rnumberR_any (RB r p) r (.inl rfl) lv _ at_ n W0 hA0.rd hA0.ap hat).mono ?_
            intro e w1 hl
            rw [hX] at hl
            obtain ⟨rfl, hf⟩ := hl
            have HAG : Hid (Ag b N w r p w1 lv at_ ec v) := hA0.flaws hf
            clear hA0 hf hX
            go_wp2_with (first | (go_at_call 14; refine (num_any _ _).mono ?_; rintro e w' ⟨rfl, hw⟩; obtain rfl := hw.symm; clear hw) | fail)
            go_roundw
            case rel => exact ⟨k + 1, _, _, _, _, HK.out, by go_num, HAG.out⟩
            case measure => have := HK.out; simp [intOf]; omega
          | ok q =>
            obtain ⟨m, rest⟩ := q
            refine (rnumberR_any (RB r p) r (.inl rfl) lv _ at_ n W0 hA0.rd hA0.ap hat).mono ?_
            intro e w1 hl
            rw [hX] at hl
            obtain ⟨rfl, ht⟩ := hl
            obtain ⟨hs, hm⟩ := lnum_same (bnd_ok hX)
            obtain ⟨lv1, hM⟩ := hA0.took ht hs
            clear ht hX
            go_wp2_with (first | (go_at_call 14; refine (num_any _ _).mono ?_; rintro e w' ⟨rfl, hw⟩; obtain rfl := hw.symm; clear hw) | fail)
            refine (wnumber_ok p v _ m hm w1 hM.wr).mono ?_
            intro e w2 hl2
            obtain ⟨rfl, v2, hA2⟩ := hM.laid hb hl2
            have HAG : Hid (Ag b N w r p w2 lv1 _ 0 v2) := hA2
            clear hA0 hM hl2 hA2
            go_wp2_with (first | (go_at_call 14; refine (num_any _ _).mono ?_; rintro e w' ⟨rfl, hw⟩; obtain rfl := hw.symm; clear hw) | fail)
            go_roundw
            case rel => exact ⟨k + 1, _, _, _, _, HK.out, by go_num, HAG.out⟩
            case measure => have := HK.out; simp [intOf]; omega
        · have hec : ¬ (fl : Int) = 0 := by omega
          refine (rnumber_flaw r lv _ at_ fl n W0 hA0.rd hfl).mono ?_
          rintro e w1 ⟨rfl, hBf⟩
          have HAG : Hid (Ag b N w r p w1 lv at_ fl v) := hA0.grow hBf
          clear hA0 hBf
          go_wp2_with (first | (go_at_call 14; refine (num_any _ _).mono ?_; rintro e w' ⟨rfl, hw⟩; obtain rfl := hw.symm; clear hw) | fail)
          go_roundw
          case rel => exact ⟨k + 1, _, _, _, _, HK.out, by go_num, HAG.out⟩
          case measure => have := HK.out; simp [intOf]; omega
      · skip
        by_cases hw1 : what = 1
        · subst hw1
          go_wp2_with fail
          refine named (p := fun X => Calls _ _ _ X _) ?_
          intro W0 hW0
          have hB0 : Below wr.heap.size wr W0 := by rw [hW0]; exact (Below.refl _ _).alloc (Nat.le_refl _) _
          clear hW0
          have hA0 := hAg.grow hB0
          clear hAg hB0
          by_cases hfl : fl = 0
          · subst hfl
            cases hX : lsig (b.drop at_) with
            | error ec =>
              have hec : ¬ (ec : Int) = 0 := by have := lsig_ne hX; omega
              refine (rsignedR_any (RB r p) r (.inl rfl) lv _ at_ W0 hA0.rd hA0.ap hat).mono ?_
              intro e w1 hl
              rw [hX] at hl
              obtain ⟨rfl, hf⟩ := hl
              have HAG : Hid (Ag b N w r p w1 lv at_ ec v) := hA0.flaws hf
              clear hA0 hf hX
              go_wp2_with (first | (go_at_call 14; refine (num_any _ _).mono ?_; rintro e w' ⟨rfl, hw⟩; obtain rfl := hw.symm; clear hw) | fail)
              go_roundw
              case rel => exact ⟨k + 1, _, _, _, _, HK.out, by go_num, HAG.out⟩
              case measure => have := HK.out; simp [intOf]; omega
            | ok q =>
              obtain ⟨m, rest⟩ := q
              refine (rsignedR_any (RB r p) r (.inl rfl) lv _ at_ W0 hA0.rd hA0.ap hat).mono ?_
              intro e w1 hl
              rw [hX] at hl
              obtain ⟨rfl, ht⟩ := hl
              obtain ⟨hs, hm⟩ := lsig_same hX
              obtain ⟨lv1, hM⟩ := hA0.took ht hs
              have hws := wsigned_ok p v _ m hm w1 hM.wr
              clear hm hs
              generalize numL (foldN m) = om at *
              clear ht hX
              go_wp2_with (first | (go_at_call 14; refine (num_any _ _).mono ?_; rintro e w' ⟨rfl, hw⟩; obtain rfl := hw.symm; clear hw) | fail)
              refine hws.mono ?_
              intro e w2 hl2
              obtain ⟨rfl, v2, hA2⟩ := hM.laid hb hl2
              have HAG : Hid (Ag b N w r p w2 lv1 _ 0 v2) := hA2
              clear hA0 hM hl2 hA2
              go_wp2_with (first | (go_at_call 14; refine (num_any _ _).mono ?_; rintro e w' ⟨rfl, hw⟩; obtain rfl := hw.symm; clear hw) | fail)
              go_roundw
              case rel => exact ⟨k + 1, _, _, _, _, HK.out, by go_num, HAG.out⟩
              case measure => have := HK.out; simp [intOf]; omega
          · have hec : ¬ (fl : Int) = 0 := by omega
            refine (rsigned_flaw r lv _ at_ fl W0 hA0.rd hfl).mono ?_
            rintro e w1 ⟨rfl, hBf⟩
            have HAG : Hid (Ag b N w r p w1 lv at_ fl v) := hA0.grow hBf
            clear hA0 hBf
            go_wp2_with (first | (go_at_call 14; refine (num_any _ _).mono ?_; rintro e w' ⟨rfl, hw⟩; obtain rfl := hw.symm; clear hw) | fail)
            go_roundw
            case rel => exact ⟨k + 1, _, _, _, _, HK.out, by go_num, HAG.out⟩
            case measure => have := HK.out; simp [intOf]; omega
        · skip
          by_cases hw2 : what = 2
          · subst hw2
            go_wp2_with fail
            refine named (p := fun X => Calls _ _ _ X _) ?_
            intro W0 hW0
            have hB0 : Below wr.heap.size wr W0 := by rw [hW0]; exact (Below.refl _ _).alloc (Nat.le_refl _) _
            clear hW0
            have hA0 := hAg.grow hB0
            clear hAg hB0
            by_cases hfl : fl = 0
            · subst hfl
              cases hX : bnd n (lbyt n (b.drop at_)) with
              | error ec =>
                have hec : ¬ (ec : Int) = 0 := by have := bnd_ne hX (fun _ => lbyt_ne); omega
                refine (rbytesR_any (RB r p) r (.inl rfl) lv _ at_ n W0 hA0.rd hA0.ap hat).mono ?_
                intro e w1 hl
                rw [hX] at hl
                obtain ⟨rfl, hf⟩ := hl
                have HAG : Hid (Ag b N w r p w1 lv at_ ec v) := hA0.flaws hf
                clear hA0 hf hX
                go_wp2_with (first | (go_at_call 14; refine (num_any _ _).mono ?_; rintro e w' ⟨rfl, hw⟩; obtain rfl := hw.symm; clear hw) | fail)
                go_roundw
                case rel => exact ⟨k + 1, _, _, _, _, HK.out, by go_num, HAG.out⟩
                case measure => have := HK.out; simp [intOf]; omega
              | ok q =>
                obtain ⟨m, rest⟩ := q
                refine (rbytesR_any (RB r p) r (.inl rfl) lv _ at_ n W0 hA0.rd hA0.ap hat).mono ?_
                intro e w1 hl
                rw [hX] at hl
                obtain ⟨cv, rfl, ht, hO, hnew⟩ := hl
                have hs := lbyt_same (bnd_ok hX)
                obtain ⟨lv1, hM⟩ := hA0.took ht hs
                have hcl : m.length ≤ 1000000000 := by have := hM.le; unfold bytL at this; simp at this; omega
                have hws := wbytes_in p v cv _ m w1 hM.wr (hO.inap (fun j hj e => by have := hnew j hj; have := hA0.wr.lt j e; omega)) hcl
                obtain ⟨ca, cc, rfl⟩ := hO.slice
                clear hO hnew hs
                clear ht hX
                go_wp2_with (first | (go_at_call 14; refine (num_any _ _).mono ?_; rintro e w' ⟨rfl, hw⟩; obtain rfl := hw.symm; clear hw) | fail)
                refine hws.mono ?_
                intro e w2 hl2
                obtain ⟨rfl, v2, hA2⟩ := hM.laid hb hl2
                have HAG : Hid (Ag b N w r p w2 lv1 _ 0 v2) := hA2
                clear hA0 hM hl2 hA2
                go_wp2_with (first | (go_at_call 14; refine (num_any _ _).mono ?_; rintro e w' ⟨rfl, hw⟩; obtain rfl := hw.symm; clear hw) | fail)
                go_roundw
                case rel => exact ⟨k + 1, _, _, _, _, HK.out, by go_num, HAG.out⟩
                case measure => have := HK.out; simp [intOf]; omega
            · have hec : ¬ (fl : Int) = 0 := by omega
              refine (rbytes_flaw r lv _ at_ fl n W0 hA0.rd hfl).mono ?_
              rintro e w1 ⟨rfl, hBf⟩
              have HAG : Hid (Ag b N w r p w1 lv at_ fl v) := hA0.grow hBf
              clear hA0 hBf
              go_wp2_with (first | (go_at_call 14; refine (num_any _ _).mono ?_; rintro e w' ⟨rfl, hw⟩; obtain rfl := hw.symm; clear hw) | fail)
              go_roundw
              case rel => exact ⟨k + 1, _, _, _, _, HK.out, by go_num, HAG.out⟩
              case measure => have := HK.out; simp [intOf]; omega
          · skip
            by_cases hw3 : what = 3
            · subst hw3
              go_wp2_with fail
              refine named (p := fun X => Calls _ _ _ X _) ?_
              intro W0 hW0
              have hB0 : Below wr.heap.size wr W0 := by rw [hW0]; exact (Below.refl _ _).alloc (Nat.le_refl _) _
              clear hW0
              have hA0 := hAg.grow hB0
              clear hAg hB0
              by_cases hfl : fl = 0
              · subst hfl
                cases hX : bnd n (lbyt n (b.drop at_)) with
                | error ec =>
                  have hec : ¬ (ec : Int) = 0 := by have := bnd_ne hX (fun _ => lbyt_ne); omega
                  refine (rtextR_any (RB r p) r (.inl rfl) lv _ at_ n W0 hA0.rd hA0.ap hat).mono ?_
                  intro e w1 hl
                  rw [hX] at hl
                  obtain ⟨rfl, hf⟩ := hl
                  have HAG : Hid (Ag b N w r p w1 lv at_ ec v) := hA0.flaws hf
                  clear hA0 hf hX
                  go_wp2_with (first | (go_at_call 14; refine (num_any _ _).mono ?_; rintro e w' ⟨rfl, hw⟩; obtain rfl := hw.symm; clear hw) | fail)
                  go_roundw
                  case rel => exact ⟨k + 1, _, _, _, _, HK.out, by go_num, HAG.out⟩
                  case measure => have := HK.out; simp [intOf]; omega
                | ok q =>
                  obtain ⟨m, rest⟩ := q
                  refine (rtextR_any (RB r p) r (.inl rfl) lv _ at_ n W0 hA0.rd hA0.ap hat).mono ?_
                  intro e w1 hl
                  rw [hX] at hl
                  obtain ⟨rfl, ht⟩ := hl
                  have hs := lbyt_same (bnd_ok hX)
                  obtain ⟨lv1, hM⟩ := hA0.took ht hs
                  have hcl : m.length ≤ 1000000000 := by have := hM.le; unfold bytL at this; simp at this; omega
                  have hws := wtext_any p v _ m w1 hM.wr hcl
                  clear hs
                  generalize (⟨m.toArray⟩ : ByteArray) = sm at *
                  clear ht hX
                  go_wp2_with (first | (go_at_call 14; refine (num_any _ _).mono ?_; rintro e w' ⟨rfl, hw⟩; obtain rfl := hw.symm; clear hw) | fail)
                  refine hws.mono ?_
                  intro e w2 hl2
                  obtain ⟨rfl, v2, hA2⟩ := hM.laid hb hl2
                  have HAG : Hid (Ag b N w r p w2 lv1 _ 0 v2) := hA2
                  clear hA0 hM hl2 hA2
                  go_wp2_with (first | (go_at_call 14; refine (num_any _ _).mono ?_; rintro e w' ⟨rfl, hw⟩; obtain rfl := hw.symm; clear hw) | fail)
                  go_roundw
                  case rel => exact ⟨k + 1, _, _, _, _, HK.out, by go_num, HAG.out⟩
                  case measure => have := HK.out; simp [intOf]; omega
              · have hec : ¬ (fl : Int) = 0 := by omega
                refine (rtext_flaw r lv _ at_ fl n W0 hA0.rd hfl).mono ?_
                rintro e w1 ⟨rfl, hBf⟩
                have HAG : Hid (Ag b N w r p w1 lv at_ fl v) := hA0.grow hBf
                clear hA0 hBf
                go_wp2_with (first | (go_at_call 14; refine (num_any _ _).mono ?_; rintro e w' ⟨rfl, hw⟩; obtain rfl := hw.symm; clear hw) | fail)
                go_roundw
                case rel => exact ⟨k + 1, _, _, _, _, HK.out, by go_num, HAG.out⟩
                case measure => have := HK.out; simp [intOf]; omega
            · skip
              by_cases hw4 : what = 4
              · subst hw4
                go_wp2_with fail
                refine named (p := fun X => Calls _ _ _ X _) ?_
                intro W0 hW0
                have hB0 : Below wr.heap.size wr W0 := by rw [hW0]; exact (Below.refl _ _).alloc (Nat.le_refl _) _
                clear hW0
                have hA0 := hAg.grow hB0
                clear hAg hB0
                by_cases hfl : fl = 0
                · subst hfl
                  cases hX : ltru (b.drop at_) with
                  | error ec =>
                    have hec : ¬ (ec : Int) = 0 := by have := ltru_ne hX; omega
                    refine (rtruthR_any (RB r p) r (.inl rfl) lv _ at_ W0 hA0.rd hA0.ap hat).mono ?_
                    intro e w1 hl
                    rw [hX] at hl
                    obtain ⟨rfl, hf⟩ := hl
                    have HAG : Hid (Ag b N w r p w1 lv at_ ec v) := hA0.flaws hf
                    clear hA0 hf hX
                    go_wp2_with (first | (go_at_call 14; refine (num_any _ _).mono ?_; rintro e w' ⟨rfl, hw⟩; obtain rfl := hw.symm; clear hw) | fail)
                    go_roundw
                    case rel => exact ⟨k + 1, _, _, _, _, HK.out, by go_num, HAG.out⟩
                    case measure => have := HK.out; simp [intOf]; omega
                  | ok q =>
                    obtain ⟨m, rest⟩ := q
                    refine (rtruthR_any (RB r p) r (.inl rfl) lv _ at_ W0 hA0.rd hA0.ap hat).mono ?_
                    intro e w1 hl
                    rw [hX] at hl
                    obtain ⟨rfl, ht⟩ := hl
                    have hs := ltru_same hX
                    obtain ⟨lv1, hM⟩ := hA0.took ht hs
                    have hws := wtruth_any p v _ m w1 hM.wr
                    clear hs
                    generalize hgm : [if m = true then (1 : UInt8) else 0] = om at *
                    clear ht hX
                    go_wp2_with (first | (go_at_call 14; refine (num_any _ _).mono ?_; rintro e w' ⟨rfl, hw⟩; obtain rfl := hw.symm; clear hw) | fail)
                    refine hws.mono ?_
                    intro e w2 hl2
                    obtain ⟨rfl, v2, hA2⟩ := hM.laid hb hl2
                    have HAG : Hid (Ag b N w r p w2 lv1 _ 0 v2) := hA2
                    clear hA0 hM hl2 hA2
                    go_wp2_with (first | (go_at_call 14; refine (num_any _ _).mono ?_; rintro e w' ⟨rfl, hw⟩; obtain rfl := hw.symm; clear hw) | fail)
                    go_roundw
                    case rel => exact ⟨k + 1, _, _, _, _, HK.out, by go_num, HAG.out⟩
                    case measure => have := HK.out; simp [intOf]; omega
                · have hec : ¬ (fl : Int) = 0 := by omega
                  refine (rtruth_flaw r lv _ at_ fl W0 hA0.rd hfl).mono ?_
                  rintro e w1 ⟨rfl, hBf⟩
                  have HAG : Hid (Ag b N w r p w1 lv at_ fl v) := hA0.grow hBf
                  clear hA0 hBf
                  go_wp2_with (first | (go_at_call 14; refine (num_any _ _).mono ?_; rintro e w' ⟨rfl, hw⟩; obtain rfl := hw.symm; clear hw) | fail)
                  go_roundw
                  case rel => exact ⟨k + 1, _, _, _, _, HK.out, by go_num, HAG.out⟩
                  case measure => have := HK.out; simp [intOf]; omega
              · skip
                by_cases hw5 : what = 5
                · subst hw5
                  go_wp2_with fail
                  refine named (p := fun X => Calls _ _ _ X _) ?_
                  intro W0 hW0
                  have hB0 : Below wr.heap.size wr W0 := by rw [hW0]; exact (Below.refl _ _).alloc (Nat.le_refl _) _
                  clear hW0
                  have hA0 := hAg.grow hB0
                  clear hAg hB0
                  by_cases hfl : fl = 0
                  · subst hfl
                    cases hX : bnd n (lraw n.toNat (b.drop at_)) with
                    | error ec =>
                      have hec : ¬ (ec : Int) = 0 := by have := bnd_ne hX (fun _ => lraw_ne); omega
                      refine (rrawR_any (RB r p) r (.inl rfl) lv _ at_ n W0 hA0.rd hA0.ap hat).mono ?_
                      intro e w1 hl
                      rw [hX] at hl
                      obtain ⟨rfl, hf⟩ := hl
                      have HAG : Hid (Ag b N w r p w1 lv at_ ec v) := hA0.flaws hf
                      clear hA0 hf hX
                      go_wp2_with (first | (go_at_call 14; refine (num_any _ _).mono ?_; rintro e w' ⟨rfl, hw⟩; obtain rfl := hw.symm; clear hw) | fail)
                      go_roundw
                      case rel => exact ⟨k + 1, _, _, _, _, HK.out, by go_num, HAG.out⟩
                      case measure => have := HK.out; simp [intOf]; omega
                    | ok q =>
                      obtain ⟨m, rest⟩ := q
                      refine (rrawR_any (RB r p) r (.inl rfl) lv _ at_ n W0 hA0.rd hA0.ap hat).mono ?_
                      intro e w1 hl
                      rw [hX] at hl
                      obtain ⟨cv, rfl, ht, hO, hnew⟩ := hl
                      have hs := (lraw_same (bnd_ok hX)).1
                      obtain ⟨lv1, hM0⟩ := hA0.took ht hs
                      have hcl : m.length ≤ 1000000000 := by have := hM0.le; omega
                      have hwl := hM0.wr.lt
                      have hcv := (hO.inap (S := WS p v) (fun j hj e => by have := hnew j hj; have := hA0.wr.lt j e; omega)).after (Below.refl _ _) ⟨r, hM0.rd.lt, hA0.nw⟩
                      obtain ⟨ca, cc, rfl⟩ := hO.slice
                      clear hO hnew hs
                      clear ht hX
                      go_wp2_with (first | (go_at_call 14; refine (num_any _ _).mono ?_; rintro e w' ⟨rfl, hw⟩; obtain rfl := hw.symm; clear hw) | fail)
                      refine named (p := fun X => Calls _ _ _ X _) ?_
                      intro W3 hW3
                      have hB3 : Below w1.heap.size w1 W3 := by rw [hW3]; exact (Below.refl _ _).alloc (Nat.le_refl _) _
                      have hP3 : Parts (WS p v) W3 (.slice (some ⟨w1.heap.size, 0, none⟩) 1 1) [m] := by rw [hW3]; exact parts1 w1 _ hcv hwl rfl
                      clear hW3
                      have hM := hM0.grow hB3
                      have ef : [m].flatten = m := by simp
                      have hraw := raw_any p v _ _ [m] W3 hM.wr hP3 (fun d hd => by simp at hd; subst hd; exact hcl)
                      rw [ef] at hraw
                      refine hraw.mono ?_
                      intro e w2 hl2
                      obtain ⟨rfl, v2, hA2⟩ := hM.laid hb hl2
                      have HAG : Hid (Ag b N w r p w2 lv1 _ 0 v2) := hA2
                      clear hA0 hM hl2 hA2
                      go_wp2_with (first | (go_at_call 14; refine (num_any _ _).mono ?_; rintro e w' ⟨rfl, hw⟩; obtain rfl := hw.symm; clear hw) | fail)
                      go_roundw
                      case rel => exact ⟨k + 1, _, _, _, _, HK.out, by go_num, HAG.out⟩
                      case measure => have := HK.out; simp [intOf]; omega
                  · have hec : ¬ (fl : Int) = 0 := by omega
                    refine (rraw_flaw r lv _ at_ fl n W0 hA0.rd hfl).mono ?_
                    rintro e w1 ⟨rfl, hBf⟩
                    have HAG : Hid (Ag b N w r p w1 lv at_ fl v) := hA0.grow hBf
                    clear hA0 hBf
                    go_wp2_with (first | (go_at_call 14; refine (num_any _ _).mono ?_; rintro e w' ⟨rfl, hw⟩; obtain rfl := hw.symm; clear hw) | fail)
                    go_roundw
                    case rel => exact ⟨k + 1, _, _, _, _, HK.out, by go_num, HAG.out⟩
                    case measure => have := HK.out; simp [intOf]; omega
                · skip
                  go_wp2_with fail
                  have HAG : Hid (Ag b N w r p wr lv at_ fl v) := hAg
                  clear hAg
                  go_roundw
                  case rel => exact ⟨k + 1, _, _, _, _, HK.out, by go_num, HAG.out.grow ((Below.refl _ _).alloc (Nat.le_refl _) _)⟩
                  case measure => have := HK.out; simp [intOf]; omega
    · have i1 : ¬ (k : Int) < ts.length := by omega
      by_cases he : endE (b.drop at_) fl = 0
      · have htk : b.take at_ = b := by
          unfold endE at he
          by_cases h1 : fl = 0
          · subst h1
            by_cases h2 : (b.drop at_).length = 0
            · rw [List.length_drop] at h2; exact List.take_of_length_le (by omega)
            · rw [if_neg (by omega), if_neg h2] at he; omega
          · rw [if_pos h1] at he; omega
        have hend := end_any r lv _ at_ fl wr hAg.rd
        rw [he] at hend
        have hplt := hAg.wr.has.lt
        have hWr := hAg.wr
        have hRd := hAg.rd
        have hBlw := hAg.below
        have hle0 := hAg.le
        have hzN := hBlw.size
        obtain ⟨M, hNe⟩ : ∃ M, M = wr.heap.size := ⟨_, rfl⟩
        have hN : M ≤ wr.heap.size := by omega
        have hNpos : 0 < M := by omega
        have hBy : Bytes wr (.slice ba b.length bcap) b := HB.out.below (by rw [← HNe.out]; exact hBlw)
        rw [htk] at hWr
        clear hAg hRd
        generalize b.length = bl at *
        go_wp2_with (first | (go_at_call 34; refine hend.mono ?_; rintro e w' ⟨rfl, hw⟩; obtain rfl := hw.symm; clear hw) | (first | (go_at_call 14; refine (num_any _ _).mono ?_; rintro e w' ⟨rfl, hw⟩; obtain rfl := hw.symm; clear hw) | fail) | fail)
        clear hend
        generalize b = d at *
        generalize hs : (⟨d.toArray⟩ : ByteArray) = s at *
        refine wp_region_owes (A := [0, 1, 3, 0, 8, 31, 63]) (need := [[(6, none)], [(151, some 0)], [(152, some 1)], [(0, none)], [(154, some 3)], [(153, some 2), (155, some 4)], [(156, some 5)]]) (again1Φ d s p ba bl bcap) M 173 (by kernel_rfl) (by kernel_rfl) (by kernel_rfl) (by kernel_rfl) (by kernel_rfl) (by kernel_rfl) rfl ?stable ?hop ?hend
        case stable =>
          intro i v p q hpq h
          unfold again1Φ at h ⊢
          split at h <;> first | exact h | exact h.le hpq
        case hop =>
          refine ⟨?_, ?_, ?_, ?_, ?_, ?_, ?_, trivial⟩
          · intro a w hle hE
            have h6 : a.tmps.getD 6 undef = .pointer (some ⟨p, 0, none⟩) := hE (6, none) (by simp)
            rw [if_pos (wanted_plain rfl)]
            refine owe_value (v := .pointer (some ⟨p, 0, none⟩)) ?_ (Le.refl _ _) rfl
            go_simp
          · intro a w hle hE
            have h151 : a.tmps.getD 151 undef = .pointer (some ⟨p, 0, none⟩) := hE (151, some 0) (by simp)
            rw [if_pos (wanted_plain rfl)]
            refine owe_call (f := 15) (args := #[.pointer (some ⟨p, 0, none⟩)]) (by go_simp) ?_
            refine (all_any p _ _ w (hWr.below (by rw [← hNe]; exact hle.below))).mono ?_
            rintro e w1 ⟨x, rfl, hn⟩
            exact ⟨_, rfl, Le.of hn.below (Nat.le_trans hN hle.size), hn.own.bytes (Nat.lt_of_lt_of_le (Nat.lt_of_lt_of_le hNpos (Nat.le_trans hN hle.size)) hn.below.size)⟩
          · intro a w hle hE
            have h152 : Bytes w (a.tmps.getD 152 undef) d := hE (152, some 1) (by simp)
            rw [if_pos (wanted_plain rfl)]
            have hcv := bytes_string Try.underlying27 Try.underlying5 Try.underlying9 w _ d h152
            rw [hs] at hcv
            refine owe_value (v := .string s) ?_ (Le.refl _ _) rfl
            have e1 : a.eval (.tmp 152) = a.tmps.getD 152 undef := rfl
            unfold execOp
            simp only [e1, hcv, Sem.run_bind, Sem.run_pure, Result.andThen_ok]
          · intro a w hle hE
            have h0 : a.tmps.getD 0 undef = .slice ba bl bcap := hE (0, none) (by simp)
            rw [if_pos (wanted_plain rfl)]
            refine owe_value (v := .slice ba bl bcap) ?_ (Le.refl _ _) rfl
            go_simp
          · intro a w hle hE
            have h154 : a.tmps.getD 154 undef = .slice ba bl bcap := hE (154, some 3) (by simp)
            rw [if_pos (wanted_plain rfl)]
            have hcv := bytes_string Try.underlying27 Try.underlying5 Try.underlying9 w _ d (hBy.le hle)
            rw [hs] at hcv
            refine owe_value (v := .string s) ?_ (Le.refl _ _) rfl
            have e1 : a.eval (.tmp 154) = _ := h154
            unfold execOp
            simp only [e1, hcv, Sem.run_bind, Sem.run_pure, Result.andThen_ok]
          · intro a w hle hE
            have h153 : a.tmps.getD 153 undef = .string s := hE (153, some 2) (by simp)
            have h155 : a.tmps.getD 155 undef = .string s := hE (155, some 4) (by simp)
            rw [if_pos (wanted_plain rfl)]
            refine owe_value (v := .bool true) ?_ (Le.refl _ _) rfl
            go_simp
          · intro a w hle hE
            have h156 : a.tmps.getD 156 undef = .bool true := hE (156, some 5) (by simp)
            rw [if_pos (wanted_plain rfl)]
            refine owe_value (v := .bool true) ?_ (Le.refl _ _) rfl
            go_simp
        case hend =>
          intro a w' hle hdef hsz hall hold
          have h0 : a.tmps.getD 4 undef = .bool true := hall 6 _ 4 rfl rfl
          go_wp2_with fail
          refine bodyPost_ret (results_tmp rfl _ _ _) hdef ?_
          refine ⟨by rw [h0], ?_⟩
          rw [← HNe.out]
          exact hBlw.trans (hle.below.mono (by have := HNe.out; omega))
      · have i2 : ¬ ((endE (b.drop at_) fl : Nat) : Int) = 0 := by omega
        have hend := end_any r lv _ at_ fl wr hAg.rd
        generalize endE (b.drop at_) fl = ec at *
        have hplt := hAg.wr.has.lt
        have hWr := hAg.wr
        have hRd := hAg.rd
        have hBlw := hAg.below
        have hle0 := hAg.le
        have hzN := hBlw.size
        obtain ⟨M, hNe⟩ : ∃ M, M = wr.heap.size := ⟨_, rfl⟩
        have hN : M ≤ wr.heap.size := by omega
        have hNpos : 0 < M := by omega
        have hBy : Bytes wr (.slice ba b.length bcap) b := HB.out.below (by rw [← HNe.out]; exact hBlw)
        have hCut : Bytes wr (.slice ba at_ bcap) (b.take at_) := hBy.cut hle0
        have i3 : (at_ : Int) ≤ b.length := by omega
        have hcap : b.length ≤ bcap := hBy.cap
        generalize b.drop at_ = rst at *
        generalize b.take at_ = d at *
        generalize at_ = av at *
        clear hAg hBy
        generalize b.length = bl at *
        go_wp2_with (first | (go_at_call 34; refine hend.mono ?_; rintro e w' ⟨rfl, hw⟩; obtain rfl := hw.symm; clear hw) | (first | (go_at_call 14; refine (num_any _ _).mono ?_; rintro e w' ⟨rfl, hw⟩; obtain rfl := hw.symm; clear hw) | fail) | fail)
        clear hend
        generalize hs : (⟨d.toArray⟩ : ByteArray) = s at *
        refine wp_region_owes (A := [0, 1, 0, 4, 15, 31, 63, 127, 255, 63, 63, 1279, 3839, 7935, 16383, 32767, 65535]) (need := [[(5, none)], [(157, some 0)], [(0, none)], [(159, some 2)], [(158, some 1), (160, some 3)], [(161, some 4)], [(6, none), (162, some 5)], [(163, some 6), (162, some 5)], [(164, some 7), (162, some 5)], [(0, none), (162, some 5)], [(5, none), (162, some 5)], [(167, some 10), (162, some 5)], [(166, some 9), (168, some 11), (162, some 5)], [(169, some 12), (162, some 5)], [(165, some 8), (170, some 13), (162, some 5)], [(162, some 5), (171, some 14)], [(172, some 15)]]) (again2Φ d s p r ba bl bcap av) M 173 (by kernel_rfl) (by kernel_rfl) (by kernel_rfl) (by kernel_rfl) (by kernel_rfl) (by kernel_rfl) rfl ?stable ?hop ?hend
        case stable =>
          intro i v p q hpq h
          unfold again2Φ at h ⊢
          split at h <;> first | exact h | exact h.le hpq
        case hop =>
          refine ⟨?_, ?_, ?_, ?_, ?_, ?_, ?_, ?_, ?_, ?_, ?_, ?_, ?_, ?_, ?_, ?_, ?_, trivial⟩
          · intro a w hle hE
            have h5 : a.tmps.getD 5 undef = .pointer (some ⟨r, 0, none⟩) := hE (5, none) (by simp)
            rw [if_pos (wanted_plain rfl)]
            refine owe_value (v := .pointer (some ⟨r, 0, none⟩)) ?_ (Le.refl _ _) rfl
            go_simp
          · intro a w hle hE
            have h157 : a.tmps.getD 157 undef = .pointer (some ⟨r, 0, none⟩) := hE (157, some 0) (by simp)
            rw [if_pos (wanted_plain rfl)]
            refine owe_call (f := 32) (args := #[.pointer (some ⟨r, 0, none⟩)]) (by go_simp) ?_
            refine (at_any r _ _ _ _ w (hRd.below (by rw [← hNe]; exact hle.below))).mono ?_
            rintro e w1 ⟨rfl, rfl⟩
            exact ⟨_, rfl, Le.refl _ _, rfl⟩
          · intro a w hle hE
            have h0 : a.tmps.getD 0 undef = .slice ba bl bcap := hE (0, none) (by simp)
            rw [if_pos (wanted_plain rfl)]
            refine owe_value (v := .slice ba bl bcap) ?_ (Le.refl _ _) rfl
            go_simp
          · intro a w hle hE
            have h159 : a.tmps.getD 159 undef = .slice ba bl bcap := hE (159, some 2) (by simp)
            rw [if_pos (wanted_plain rfl)]
            refine owe_value (v := .int .i64 bl) ?_ (Le.refl _ _) rfl
            go_simp
          · intro a w hle hE
            have h158 : a.tmps.getD 158 undef = .int .i64 av := hE (158, some 1) (by simp)
            have h160 : a.tmps.getD 160 undef = .int .i64 bl := hE (160, some 3) (by simp)
            rw [if_pos (wanted_plain rfl)]
            refine owe_value (v := .bool true) ?_ (Le.refl _ _) rfl
            go_simp
          · intro a w hle hE
            have h161 : a.tmps.getD 161 undef = .bool true := hE (161, some 4) (by simp)
            rw [if_pos (wanted_plain rfl)]
            refine owe_value (v := .bool true) ?_ (Le.refl _ _) rfl
            go_simp
          · intro a w hle hE
            have h6 : a.tmps.getD 6 undef = .pointer (some ⟨p, 0, none⟩) := hE (6, none) (by simp)
            have h162 : a.tmps.getD 162 undef = .bool true := hE (162, some 5) (by simp)
            rw [if_pos (wanted_of (j := 5) (b := true) (d := 162) rfl rfl h162)]
            refine owe_value (v := .pointer (some ⟨p, 0, none⟩)) ?_ (Le.refl _ _) rfl
            go_simp
          · intro a w hle hE
            have h163 : a.tmps.getD 163 undef = .pointer (some ⟨p, 0, none⟩) := hE (163, some 6) (by simp)
            have h162 : a.tmps.getD 162 undef = .bool true := hE (162, some 5) (by simp)
            rw [if_pos (wanted_of (j := 5) (b := true) (d := 162) rfl rfl h162)]
            refine owe_call (f := 15) (args := #[.pointer (some ⟨p, 0, none⟩)]) (by go_simp) ?_
            refine (all_any p _ _ w (hWr.below (by rw [← hNe]; exact hle.below))).mono ?_
            rintro e w1 ⟨x, rfl, hn⟩
            exact ⟨_, rfl, Le.of hn.below (Nat.le_trans hN hle.size), hn.own.bytes (Nat.lt_of_lt_of_le (Nat.lt_of_lt_of_le hNpos (Nat.le_trans hN hle.size)) hn.below.size)⟩
          · intro a w hle hE
            have h164 : Bytes w (a.tmps.getD 164 undef) d := hE (164, some 7) (by simp)
            have h162 : a.tmps.getD 162 undef = .bool true := hE (162, some 5) (by simp)
            rw [if_pos (wanted_of (j := 5) (b := true) (d := 162) rfl rfl h162)]
            have hcv := bytes_string Try.underlying27 Try.underlying5 Try.underlying9 w _ d h164
            rw [hs] at hcv
            refine owe_value (v := .string s) ?_ (Le.refl _ _) rfl
            have e1 : a.eval (.tmp 164) = a.tmps.getD 164 undef := rfl
            unfold execOp
            simp only [e1, hcv, Sem.run_bind, Sem.run_pure, Result.andThen_ok]
          · intro a w hle hE
            have h0 : a.tmps.getD 0 undef = .slice ba bl bcap := hE (0, none) (by simp)
            have h162 : a.tmps.getD 162 undef = .bool true := hE (162, some 5) (by simp)
            rw [if_pos (wanted_of (j := 5) (b := true) (d := 162) rfl rfl h162)]
            refine owe_value (v := .slice ba bl bcap) ?_ (Le.refl _ _) rfl
            go_simp
          · intro a w hle hE
            have h5 : a.tmps.getD 5 undef = .pointer (some ⟨r, 0, none⟩) := hE (5, none) (by simp)
            have h162 : a.tmps.getD 162 undef = .bool true := hE (162, some 5) (by simp)
            rw [if_pos (wanted_of (j := 5) (b := true) (d := 162) rfl rfl h162)]
            refine owe_value (v := .pointer (some ⟨r, 0, none⟩)) ?_ (Le.refl _ _) rfl
            go_simp
          · intro a w hle hE
            have h167 : a.tmps.getD 167 undef = .pointer (some ⟨r, 0, none⟩) := hE (167, some 10) (by simp)
            have h162 : a.tmps.getD 162 undef = .bool true := hE (162, some 5) (by simp)
            rw [if_pos (wanted_of (j := 5) (b := true) (d := 162) rfl rfl h162)]
            refine owe_call (f := 32) (args := #[.pointer (some ⟨r, 0, none⟩)]) (by go_simp) ?_
            refine (at_any r _ _ _ _ w (hRd.below (by rw [← hNe]; exact hle.below))).mono ?_
            rintro e w1 ⟨rfl, rfl⟩
            exact ⟨_, rfl, Le.refl _ _, rfl⟩
          · intro a w hle hE
            have h166 : a.tmps.getD 166 undef = .slice ba bl bcap := hE (166, some 9) (by simp)
            have h168 : a.tmps.getD 168 undef = .int .i64 av := hE (168, some 11) (by simp)
            have h162 : a.tmps.getD 162 undef = .bool true := hE (162, some 5) (by simp)
            rw [if_pos (wanted_of (j := 5) (b := true) (d := 162) rfl rfl h162)]
            refine owe_value (v := .slice ba av bcap) ?_ (Le.refl _ _) rfl
            go_simp
            intro h
            omega
          · intro a w hle hE
            have h169 : a.tmps.getD 169 undef = .slice ba av bcap := hE (169, some 12) (by simp)
            have h162 : a.tmps.getD 162 undef = .bool true := hE (162, some 5) (by simp)
            rw [if_pos (wanted_of (j := 5) (b := true) (d := 162) rfl rfl h162)]
            have hcv := bytes_string Try.underlying27 Try.underlying5 Try.underlying9 w _ d (hCut.le hle)
            rw [hs] at hcv
            refine owe_value (v := .string s) ?_ (Le.refl _ _) rfl
            have e1 : a.eval (.tmp 169) = _ := h169
            unfold execOp
            simp only [e1, hcv, Sem.run_bind, Sem.run_pure, Result.andThen_ok]
          · intro a w hle hE
            have h165 : a.tmps.getD 165 undef = .string s := hE (165, some 8) (by simp)
            have h170 : a.tmps.getD 170 undef = .string s := hE (170, some 13) (by simp)
            have h162 : a.tmps.getD 162 undef = .bool true := hE (162, some 5) (by simp)
            rw [if_pos (wanted_of (j := 5) (b := true) (d := 162) rfl rfl h162)]
            refine owe_value (v := .bool true) ?_ (Le.refl _ _) rfl
            go_simp
          · intro a w hle hE
            have h162 : a.tmps.getD 162 undef = .bool true := hE (162, some 5) (by simp)
            have h171 : a.tmps.getD 171 undef = .bool true := hE (171, some 14) (by simp)
            rw [if_pos (wanted_plain rfl)]
            refine owe_value (v := .bool true) ?_ (Le.refl _ _) rfl
            go_simp
          · intro a w hle hE
            have h172 : a.tmps.getD 172 undef = .bool true := hE (172, some 15) (by simp)
            rw [if_pos (wanted_plain rfl)]
            refine owe_value (v := .bool true) ?_ (Le.refl _ _) rfl
            go_simp
        case hend =>
          intro a w' hle hdef hsz hall hold
          have h0 : a.tmps.getD 4 undef = .bool true := hall 16 _ 4 rfl rfl
          go_wp2_with fail
          refine bodyPost_ret (results_tmp rfl _ _ _) hdef ?_
          refine ⟨by rw [h0], ?_⟩
          rw [← HNe.out]
          exact hBlw.trans (hle.below.mono (by have := HNe.out; omega))

end Go.Proofs.Ytgoflpfafkmmgaa
