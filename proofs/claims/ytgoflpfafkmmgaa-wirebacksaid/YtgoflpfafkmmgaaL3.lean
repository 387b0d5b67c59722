/- What is left of a reader's bytes: raw, bytes, text, truth. -/
import Derived.Test.YtgoflpfafkmmgaaL2
namespace Go.Proofs.Ytgoflpfafkmmgaa
open Go.RowKit

set_option maxRecDepth 10000 in
set_option maxHeartbeats 1000000 in
theorem lraw_any (R : Nat → Prop) (lp : Nat) (lv : Value) (l : List UInt8) (n : Nat) (W : World) (hH : Has W lp #[lv] 80) (hB : BytesAp (fun k => R k ∨ k = lp) W lv l) (hsm : l.length ≤ 10000000000) :
    Calls Try.prog 68 #[.pointer (some ⟨lp, 0, none⟩), .int .i64 n] W fun e w' => AnsB R lp W (lraw n l) e w' := by
  have c0 := hH.one
  have f0 := hH.free 0
  obtain ⟨a, cap, rfl⟩ := hB.slice
  have hcap : l.length ≤ cap := by obtain ⟨a', c', _, _, he, hc, _⟩ := hB; cases he; exact hc
  unfold lraw
  by_cases hn : l.length < n
  · rw [if_pos hn]
    show Calls _ _ _ _ fun e w' => AnsB R lp W (.error 120) e w'
    have Hf : Hid (AnsB R lp W (.error 120) (.returned (.tuple #[.slice none 0 0, .int .i64 120])) W) := ⟨rfl, Ex.refl _ _⟩
    have i1 : (l.length : Int) < n := by omega
    go_enter Try.func68, Try.ntmps68
    go_wp2_with fail
    go_ret2
    exact Hf.out
  · rw [if_neg hn]
    show Calls _ _ _ _ fun e w' => ∃ v, Found R lp W (l.drop n) v e w' ∧ Own w' v (l.take n) ∧ ∀ k, v.ownBlock = some k → W.heap.size ≤ k
    have i1 : ¬ (l.length : Int) < n := by omega
    have Ht := hB.take n (by omega)
    have Hd := hB.drop n (by omega)
    have h1 := slice_head a l.length cap n (by omega)
    have h2 := slice_left a l.length cap n (by omega)
    generalize (if cap = 0 then a else a.map (·.add (0 * 1))) = ta at *
    generalize n - 0 = tn at *
    generalize cap - 0 = tc at *
    generalize (if cap = n then a else a.map (·.add (n * 1))) = va at *
    generalize l.length - n = vn at *
    generalize cap - n = vc at *
    have Hb : Hid (Bytes W (.slice ta tn tc) (l.take n)) := Ht.bytes
    have Hl : Hid ((l.take n).length ≤ 10000000000) := by show _ ≤ _; simp; omega
    have HD : Hid (BytesAp (fun k => R k ∨ k = lp) W (.slice va vn vc) (l.drop n)) := Hd
    clear Ht Hd hcap hB
    have hlt := hH.lt
    generalize l.take n = d at *
    go_enter Try.func68, Try.ntmps68
    go_wp2_with (refine wpList_append_bytes _ rfl _ _ 27 80 rfl info5 Try.underlying27 Try.underlying80 (.slice none 0 0) _ [] d rfl rfl (Own.nil W) Hb.out (by have := Hl.out; simp; omega) ?_; intro v2 w2 hown2 hgr hloc hnil; clear hnil; have hF2 : Fr (fun _ => False) W w2 := (grown_fr hgr).mono (fun k hk e => by cases e); have hH2 := hH.fr hF2 (fun h => h); have e0 := hH2.one; have e1 := hH2.free 0; obtain ⟨a3, c3, hv2⟩ := hown2.slice; rw [List.nil_append] at hv2 hown2; subst hv2)
    go_ret2
    have hs := hH2.set 0 (.slice va vn vc)
    simp at hs
    have hnew : ∀ k, (Value.slice a3 d.length c3).ownBlock = some k → W.heap.size ≤ k := fun k hk => by
      rcases hloc k hk with h | h
      · cases h
      · exact h
    have hE : Ex lp W (w2.setCell ⟨lp, 0, none⟩ (.slice va vn vc)) := (Fr.of_ex (Ex.set lp w2 0 _) |> fun h => ((hF2.mono (fun _ _ h => h.elim)).trans h).ex)
    refine ⟨_, ⟨rfl, hE, _, hs, ?_⟩, ?_, hnew⟩
    · exact HD.out.fr (Fr.of_ex hE) (fun i _ e => .inr e)
    · exact hown2.fr (Fr.of_ex (Ex.set lp w2 0 _)) (fun i hi e => by have := hnew i hi; omega)
theorem AnsB.failed {R : Nat → Prop} {lp ec : Nat} {W w' : World} {e : Ending} (h : AnsB R lp W (.error ec) e w') : Failed lp W ec e w' := ⟨⟨_, h.1⟩, h.2⟩
theorem Failed.after {lp ec : Nat} {W w1 w2 : World} {e : Ending} (h : Failed lp w1 ec e w2) (k : Ex lp W w1) : Failed lp W ec e w2 := ⟨h.1, k.trans h.2⟩
theorem Found.after {R : Nat → Prop} {lp : Nat} {W w1 w2 : World} {rest : List UInt8} {v : Value} {e : Ending} (h : Found R lp w1 rest v e w2) (k : Ex lp W w1) : Found R lp W rest v e w2 := ⟨h.1, k.trans h.2.1, h.2.2⟩
theorem lnum_le {most : Int} {l rest : List UInt8} {n : Nat} (h : lnum most l = .ok (n, rest)) : rest.length ≤ l.length := by
  unfold lnum at h
  split at h
  · cases h
  · split at h
    · cases h
    · cases h; simp
theorem lnum_ne {most : Int} {l : List UInt8} {ec : Nat} (h : lnum most l = .error ec) : ec ≠ 0 := by
  unfold lnum at h
  split at h
  · rename_i h'
    cases h
    have := scan_err l 0 0 _ h'; omega
  · split at h
    · cases h; omega
    · cases h
theorem lraw_ne {n : Nat} {l : List UInt8} {ec : Nat} (h : lraw n l = .error ec) : ec ≠ 0 := by
  unfold lraw at h
  split at h
  · cases h; omega
  · cases h
theorem lbyt_ne {most : Int} {l : List UInt8} {ec : Nat} (h : lbyt most l = .error ec) : ec ≠ 0 := by
  unfold lbyt at h
  split at h
  · rename_i h'; cases h; exact lnum_ne h'
  · exact lraw_ne h
set_option maxHeartbeats 1000000 in
theorem lbytes_any (R : Nat → Prop) (lp : Nat) (lv : Value) (l : List UInt8) (most : Int) (W : World) (hH : Has W lp #[lv] 80) (hB : BytesAp (fun k => R k ∨ k = lp) W lv l) (hsm : l.length ≤ 10000000000) :
    Calls Try.prog 52 #[.pointer (some ⟨lp, 0, none⟩), .int .i64 most] W fun e w' => AnsB R lp W (lbyt most l) e w' := by
  have hw := lnumber_any R lp lv l most W hH hB hsm
  unfold lbyt
  cases hs : lnum most l with
  | error ec =>
    rw [hs] at hw
    have he' : ¬ (ec : Int) = 0 := by have := lnum_ne hs; omega
    show Calls _ _ _ _ fun e w' => AnsB R lp W (.error ec) e w'
    clear hs
    go_enter Try.func52, Try.ntmps52
    go_wp2_with fail
    refine hw.mono ?_
    rintro e w' ⟨⟨val, rfl⟩, hE⟩
    have Hf : Hid (AnsB R lp W (.error ec) (.returned (.tuple #[.slice none 0 0, .int .i64 ec])) w') := ⟨rfl, hE⟩
    go_wp2_with fail
    go_ret2
    exact Hf.out
  | ok p =>
    obtain ⟨n, rest⟩ := p
    rw [hs] at hw
    have hl := lnum_le hs
    show Calls _ _ _ _ fun e w' => AnsB R lp W (lraw n rest) e w'
    have hlr : ∀ lv' w1, Has w1 lp #[lv'] 80 → BytesAp (fun k => R k ∨ k = lp) w1 lv' rest → Calls Try.prog 68 #[.pointer (some ⟨lp, 0, none⟩), .int .i64 n] w1 fun e w' => AnsB R lp w1 (lraw n rest) e w' := fun lv' w1 h1 h2 => lraw_any R lp lv' rest n w1 h1 h2 (by omega)
    clear hs
    generalize lraw n rest = x at *
    cases x with
    | error ec =>
      go_enter Try.func52, Try.ntmps52
      go_wp2_with fail
      refine hw.mono ?_
      rintro e w1 ⟨rfl, hE, lv', hH', hB'⟩
      have hlr' := hlr lv' w1 hH' hB'
      clear hlr
      go_wp2_with fail
      refine hlr'.mono ?_
      rintro e w2 ⟨rfl, hE2⟩
      have Hf : Hid (AnsB R lp W (.error ec) (.returned (.tuple #[.slice none 0 0, .int .i64 ec])) w2) := ⟨rfl, hE.trans hE2⟩
      go_wp2_with fail
      go_ret2
      exact Hf.out
    | ok p =>
      obtain ⟨d, rest2⟩ := p
      go_enter Try.func52, Try.ntmps52
      go_wp2_with fail
      refine hw.mono ?_
      rintro e w1 ⟨rfl, hE, lv', hH', hB'⟩
      have hlr' := hlr lv' w1 hH' hB'
      clear hlr
      go_wp2_with fail
      refine hlr'.mono ?_
      rintro e w2 ⟨v, ⟨rfl, hE2, hr2⟩, hown, hnew⟩
      obtain ⟨va, vc, rfl⟩ := hown.slice
      have Hf : Hid (AnsB R lp W (.ok (d, rest2)) (.returned (.tuple #[.slice va d.length vc, .int .i64 0])) w2) := ⟨_, ⟨rfl, hE.trans hE2, hr2⟩, hown, fun k hk => Nat.le_trans hE.size (hnew k hk)⟩
      clear hown hr2
      go_wp2_with fail
      go_ret2
      exact Hf.out
set_option maxHeartbeats 1000000 in
theorem ltext_any (R : Nat → Prop) (lp : Nat) (lv : Value) (l : List UInt8) (most : Int) (W : World) (hH : Has W lp #[lv] 80) (hB : BytesAp (fun k => R k ∨ k = lp) W lv l) (hsm : l.length ≤ 10000000000) :
    Calls Try.prog 55 #[.pointer (some ⟨lp, 0, none⟩), .int .i64 most] W fun e w' => Ans R lp W (vS (lbyt most l)) e w' := by
  have hw := lbytes_any R lp lv l most W hH hB hsm
  have hlt := hH.lt
  generalize lbyt most l = x at *
  cases x with
  | error ec =>
    show Calls _ _ _ _ fun e w' => Failed lp W ec e w'
    go_enter Try.func55, Try.ntmps55
    go_wp2_with fail
    refine hw.mono ?_
    rintro e w1 ⟨rfl, hE⟩
    have hcv := bytes_string Try.underlying27 Try.underlying5 Try.underlying9 w1 _ [] (bytes_nil w1 (by have := hE.size; omega))
    have Hf : Hid (Failed lp W ec (.returned (.tuple #[.string ⟨#[]⟩, .int .i64 ec])) w1) := ⟨⟨_, rfl⟩, hE⟩
    go_wp2_with (refine wpList_convert_run rfl 27 9 _ rfl (.slice none 0 0) (.string ⟨#[]⟩) rfl hcv ?_)
    go_ret2
    exact Hf.out
  | ok p =>
    obtain ⟨d, rest⟩ := p
    show Calls _ _ _ _ fun e w' => Found R lp W rest (.string ⟨d.toArray⟩) e w'
    generalize hs : (⟨d.toArray⟩ : ByteArray) = s
    go_enter Try.func55, Try.ntmps55
    go_wp2_with fail
    refine hw.mono ?_
    rintro e w1 ⟨v, ⟨rfl, hE, hr1⟩, hown, hnew⟩
    have hcv := bytes_string Try.underlying27 Try.underlying5 Try.underlying9 w1 v d (hown.bytes (by have := hE.size; omega))
    rw [hs] at hcv
    obtain ⟨va, vc, rfl⟩ := hown.slice
    have Hf : Hid (Found R lp W rest (.string s) (.returned (.tuple #[.string s, .int .i64 0])) w1) := ⟨rfl, hE, hr1⟩
    clear hown hr1
    go_wp2_with (refine wpList_convert_run rfl 27 9 _ rfl (.slice va d.length vc) (.string s) rfl hcv ?_)
    go_ret2
    exact Hf.out
set_option maxHeartbeats 1000000 in
theorem ltruth_any (R : Nat → Prop) (lp : Nat) (lv : Value) (l : List UInt8) (W : World) (hH : Has W lp #[lv] 80) (hB : BytesAp (fun k => R k ∨ k = lp) W lv l) (hsm : l.length ≤ 10000000000) :
    Calls Try.prog 62 #[.pointer (some ⟨lp, 0, none⟩)] W fun e w' => Ans R lp W (vT (ltru l)) e w' := by
  have hw := lraw_any R lp lv l 1 W hH hB hsm
  cases l with
  | nil =>
    show Calls _ _ _ _ fun e w' => Failed lp W 120 e w'
    go_enter Try.func62, Try.ntmps62
    go_wp2_with fail
    refine hw.mono ?_
    rintro e w1 ⟨rfl, hE⟩
    have Hf : Hid (Failed lp W 120 (.returned (.tuple #[.bool false, .int .i64 120])) w1) := ⟨⟨_, rfl⟩, hE⟩
    go_wp2_with fail
    go_ret2
    exact Hf.out
  | cons b l =>
    have e1 : lraw 1 (b :: l) = .ok ([b], l) := by unfold lraw; rw [if_neg (by simp)]; rfl
    rw [e1] at hw
    have e2 : ltru (b :: l) = if 1 < b.toNat then .error 121 else .ok (b.toNat == 1, l) := rfl
    rw [e2]
    have hbv : Hid (bv b = (b.toNat : Int)) := rfl
    by_cases h1 : 1 < b.toNat
    · rw [if_pos h1]
      show Calls _ _ _ _ fun e w' => Failed lp W 121 e w'
      go_enter Try.func62, Try.ntmps62
      go_wp2_with fail
      refine hw.mono ?_
      rintro e w1 ⟨v, ⟨rfl, hE, hr1⟩, hown, hnew⟩
      have Hf : Hid (Failed lp W 121 (.returned (.tuple #[.bool false, .int .i64 121])) w1) := ⟨⟨_, rfl⟩, hE⟩
      obtain ⟨a, cap, db, o, rfl, _, ha, hin, _⟩ := hown.bytes (by have := hE.size; have := hH.lt; omega)
      obtain rfl := ha (by simp)
      have hc := hin 0 (by simp)
      simp only [List.getElem?_cons_zero, Option.getD_some, bc, Nat.add_zero] at hc
      have i1 : (1 : Int) < bv b := by have := hbv.out; omega
      clear hown hr1 hin
      go_wp2_with fail
      go_ret2
      exact Hf.out
    · rw [if_neg h1]
      show Calls _ _ _ _ fun e w' => Found R lp W l (.bool (b.toNat == 1)) e w'
      go_enter Try.func62, Try.ntmps62
      go_wp2_with fail
      refine hw.mono ?_
      rintro e w1 ⟨v, ⟨rfl, hE, hr1⟩, hown, hnew⟩
      have i2 : (bv b == 1) = (b.toNat == 1) := by rw [Bool.eq_iff_iff, beq_iff_eq, beq_iff_eq]; have := hbv.out; omega
      have Hf : Hid (Found R lp W l (.bool (bv b == 1)) (.returned (.tuple #[.bool (bv b == 1), .int .i64 0])) w1) := ⟨rfl, hE, hr1⟩
      obtain ⟨a, cap, db, o, rfl, _, ha, hin, _⟩ := hown.bytes (by have := hE.size; have := hH.lt; omega)
      obtain rfl := ha (by simp)
      have hc := hin 0 (by simp)
      simp only [List.getElem?_cons_zero, Option.getD_some, bc, Nat.add_zero] at hc
      have i1 : ¬ (1 : Int) < bv b := by have := hbv.out; omega
      have I2 : Hid ((bv b == 1) = (b.toNat == 1)) := i2
      clear hown hr1 hin i2
      go_wp2_with fail
      go_ret2
      rw [← I2.out]
      exact Hf.out
end Go.Proofs.Ytgoflpfafkmmgaa
