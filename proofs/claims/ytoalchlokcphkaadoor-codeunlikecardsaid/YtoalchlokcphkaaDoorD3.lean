/- laid: an extension's bytes. -/
import Derived.Test.YtoalchlokcphkaaDoorD2
import Derived.Test.YtoalchlokcphkaaDoorC4
import Derived.Lib.SlBytesConst
namespace Go.Proofs.YtoalchlokcphkaaDoor
open Go.RowKit

def insL (i : Ins) : List UInt8 := [UInt8.ofNat i.op.toNat, UInt8.ofNat (i.dst * 16 + i.src).toNat] ++ (low2L (i.off % 4294967296).toNat ++ low4L i.imm)
def bodyL (l : List Ins) : List UInt8 := (l.map insL).flatten
def headL (ctx n : Nat) : List UInt8 := ([67, 88] ++ low2L ctx) ++ low2L n
def progL (ctx : Nat) (l : List Ins) : List UInt8 := headL ctx l.length ++ bodyL l
theorem insL_len (i : Ins) : (insL i).length = 8 := rfl
theorem bodyL_len (l : List Ins) : (bodyL l).length = l.length * 8 := by
  unfold bodyL
  induction l with
  | nil => rfl
  | cons i l ih => rw [List.map_cons, List.flatten_cons, List.length_append, ih, insL_len, List.length_cons]; omega
theorem bodyL_snoc (l : List Ins) (k : Nat) (i : Ins) (h : l[k]? = some i) : bodyL (l.take (k + 1)) = bodyL (l.take k) ++ insL i := by
  have hk : k < l.length := (List.getElem?_eq_some_iff.1 h).1
  have e : l[k] = i := (List.getElem?_eq_some_iff.1 h).2
  unfold bodyL
  rw [List.take_succ_eq_append_getElem hk, e, List.map_append, List.flatten_append]
  simp
theorem make0 (c : Nat) (hc : c ≤ 1000000) (w : World) : ∃ cs, (Instr.makeSlice 27 (.int .i64 0) (.int .i64 (6 + (c : Int) * 8))).run Tryd.prog w = .ok (.slice (some ⟨w.heap.size, 0, none⟩) 0 (6 + c * 8)) (w.alloc (.cells cs 5)) ∧ Own (w.alloc (.cells cs 5)) (.slice (some ⟨w.heap.size, 0, none⟩) 0 (6 + c * 8)) [] := by
  obtain ⟨i0, hi, hz0, hz1, hz2⟩ := info_parts' info5
  have hr := run_make (P := Tryd.prog) w 27 5 i0 (.int .u8 0) Tryd.underlying27 hi hz0 .i64 .i64 0 (6 + (c : Int) * 8) (Int.le_refl _) (by omega) (by rw [hz2]; omega) (by omega)
  have e : (6 + (c : Int) * 8).toNat = 6 + c * 8 := by omega
  rw [e] at hr
  refine ⟨_, hr, ?_⟩
  exact World.ownsRow_made w _ (6 + c * 8) (Nat.zero_le _) (by unfold maxLen; omega) (by rw [size_madeCells, hz1])
theorem marked_bytes (w : World) (d : List UInt8) (n : Nat) (hn : n = d.length) (cs : Array Value) (hc : cs = byteCells d) (fr : Nat × Nat) : Bytes (w.alloc (.cells cs 5 fr)) (.slice (some ⟨w.heap.size, 0, none⟩) n n) d := by
  subst hn hc
  refine ⟨_, _, w.heap.size, 0, rfl, Nat.le_refl _, fun _ => rfl, fun j hj => ?_, by simp⟩
  rw [Nat.zero_add]
  exact (cell_of_row _ w.heap.size j (byteCells d) 5 fr (by rw [alloc_get, if_pos rfl])).trans (byteCells_at d j hj)
theorem two_bytes (w : World) (x y : UInt8) : Bytes (w.alloc (.cells #[.int .u8 (bv x), .int .u8 (bv y)] 5)) (.slice (some ⟨w.heap.size, 0, none⟩) 2 2) [x, y] := bytes_block w [x, y] 2 rfl _ rfl
theorem may_bounds {i : Ins} (h : i.may = true) : (1 ≤ i.op ∧ i.op ≤ 24) ∧ (0 ≤ i.dst ∧ i.dst ≤ 9) ∧ (0 ≤ i.src ∧ i.src ≤ 9) ∧ (-32768 ≤ i.off ∧ i.off ≤ 32767) := by
  obtain ⟨h0, h1, h2, h3, h4⟩ := mayB_iff.1 h
  exact ⟨h0, by omega, by omega, by omega⟩
/-- How laid stands: the box of the extension, and the bytes under way. -/
structure LS (w W : World) (bp : Nat) (ctx : Nat) (sl : Value) (d : List UInt8) : Prop where
  lay : Lay w.heap.size W bp d
  has : Has W w.heap.size #[.int .i64 ctx, sl] 24
  bel : Below w.heap.size w W
theorem LS.below {w W W' : World} {bp ctx : Nat} {sl : Value} {d : List UInt8} (h : LS w W bp ctx sl d) (k : Below W.heap.size W W') : LS w W' bp ctx sl d :=
  ⟨h.lay.below k, h.has.below k h.has.lt, h.bel.trans (k.mono h.bel.size)⟩
theorem LS.more {w W W' : World} {bp ctx : Nat} {sl : Value} {d d' : List UInt8} (h : LS w W bp ctx sl d) (h1 : Lay w.heap.size W' bp d') (h2 : Below w.heap.size W W') (h3 : KeepT W W') : LS w W' bp ctx sl d' :=
  ⟨h1, h3 _ _ _ h.has (by decide) (by decide), h.bel.trans h2⟩
theorem Prg.slice {w : World} {v : Value} {l : List Ins} (h : Prg w v l) : ∃ a c, v = .slice a l.length c := by
  obtain ⟨a, cap, b, o, h1, _⟩ := h; exact ⟨a, cap, h1⟩
set_option maxRecDepth 10000 in
set_option maxHeartbeats 2000000 in
theorem laid_any (ctx : Nat) (sv : Value) (l : List Ins) (w : World) (hP : Prg w sv l) (hl : l.length ≤ 256) (hc : ctx ≤ 256) (hm : ∀ i ∈ l, i.may = true) (hu : ∀ i ∈ l, i.imm < 4294967296) :
    Calls Tryd.prog 24 #[.agg #[.int .i64 ctx, sv]] w fun e w' => ∃ v, e = .returned v ∧ Own w' v (progL ctx l) ∧ (∀ k, v.ownBlock = some k → w.heap.size ≤ k) ∧ Below w.heap.size w w' := by
  obtain ⟨a, cap, b, o, rfl, ha, hI, hb⟩ := hP
  obtain ⟨W0, hW0⟩ : ∃ W0, W0 = w.alloc (.cells #[.int .i64 ctx, .slice a l.length cap] 24) := ⟨_, rfl⟩
  obtain ⟨cs, hmk, hown⟩ := make0 l.length (by omega) W0
  rw [hW0] at hmk hown
  go_enter Tryd.func24, Tryd.ntmps24
  go_wp2_with fail
  obtain ⟨W1, hW1⟩ : ∃ W1, W1 = ((w.alloc (.cells #[.int .i64 ctx, .slice a l.length cap] 24)).alloc (.cells cs 5)).alloc (.cells #[.slice (some ⟨w.heap.size + 1, 0, none⟩) 0 (6 + l.length * 8)] 27) := ⟨_, rfl⟩
  have hz1 : W1.heap.size = w.heap.size + 3 := by rw [hW1]; simp
  have hL1 : Lay w.heap.size W1 (w.heap.size + 1 + 1) [] := by
    refine ⟨⟨_, by rw [hW1]; exact has_new _ _ _ _ (by simp), by rw [hW1]; refine own_alloc ?_ _; simpa using hown, fun k hk => ?_⟩, by omega⟩
    simp [Value.ownBlock] at hk; omega
  have hP1 : Has W1 w.heap.size #[.int .i64 ctx, .slice a l.length cap] 24 := by rw [hW1]; exact has_old (has_old (has_new _ _ _ _ rfl))
  have hB1 : Below w.heap.size w W1 := by rw [hW1]; exact ((((Below.refl _ _).alloc (Nat.le_refl _) _).alloc (by simp) _).alloc (by simp; omega) _)
  rw [← hW1]
  have e2 : w.heap.size + 1 + 1 + 1 = W1.heap.size := by omega
  rw [e2]
  rw [Lib.run_convert_bytes_const (P := Tryd.prog) W1 27 5 #[.int .u8 67, .int .u8 88] 2 2 Tryd.underlying27 Tryd.underlying5]
  clear e2 hz1 hW1 hmk hown hW0
  go_wp2_with fail
  have hBa : Below W1.heap.size W1 (W1.alloc (.cells #[.int .u8 67, .int .u8 88] 5 (2, 3))) := (Below.refl _ _).alloc (Nat.le_refl _) _
  refine (lay1_any (hL1.below hBa) (marked_bytes W1 [67, 88] 2 rfl #[.int .u8 67, .int .u8 88] rfl (2, 3)) (by simp)).mono ?_
  rintro e W2 ⟨rfl, hL2, hB2, hK2⟩
  have hS0 : LS w W1 (w.heap.size + 1 + 1) ctx (.slice a l.length cap) [] := ⟨hL1, hP1, hB1⟩
  have hS2 := (hS0.below hBa).more hL2 hB2 hK2
  clear hB2 hK2 hBa hP1 hB1 hL1 hL2 hS0
  generalize w.heap.size + 1 + 1 = bp at *
  have q0 := hS2.has.cell 0
  have q1 := hS2.has.cell 1
  go_wp2_with fail
  refine (low2_any ctx (by omega) _).mono ?_
  rintro e W3 ⟨v3, rfl, hb3, hB3⟩
  have hS3 := hS2.below hB3
  clear q0 q1 hS2 hB3
  go_wp2_with fail
  refine (lay1_any hS3.lay hb3 (by simp [low2L])).mono ?_
  rintro e W4 ⟨rfl, hL4, hB4, hK4⟩
  have hS4 := hS3.more hL4 hB4 hK4
  have q1 := hS4.has.cell 1
  clear hS3 hb3 hL4 hB4 hK4
  go_wp2_with fail
  refine (low2_any l.length (by omega) _).mono ?_
  rintro e W5 ⟨v5, rfl, hb5, hB5⟩
  have hS5 := hS4.below hB5
  clear q1 hS4 hB5
  go_wp2_with fail
  refine (lay1_any hS5.lay hb5 (by simp [low2L])).mono ?_
  rintro e W6 ⟨rfl, hL6, hB6, hK6⟩
  have hS6 : LS w W6 bp ctx (.slice a l.length cap) (headL ctx l.length) := hS5.more hL6 hB6 hK6
  have q1 := hS6.has.cell 1
  clear hS5 hb5 hL6 hB6 hK6
  go_wp2_with fail
  clear q1
  go_loopw [34] (fun i wr => ∃ k : Nat, k ≤ l.length ∧ i = .int .i64 k ∧ LS w wr bp ctx (.slice a l.length cap) (headL ctx l.length ++ bodyL (l.take k))) (fun i _ => l.length - (intOf i).toNat)
  case atStart => exact ⟨0, Nat.zero_le _, rfl, by have : bodyL (l.take 0) = [] := rfl; rw [this, List.append_nil]; exact hS6⟩
  case round =>
    obtain ⟨k, hk, rfl, hS⟩ := hrel
    by_cases hlt : k < l.length
    · have hne : l ≠ [] := fun e => by rw [e] at hlt; simp at hlt
      obtain rfl := ha hne
      have hi : Hid (l[k]? = some l[k]) := List.getElem?_eq_getElem hlt
      have hmy : l[k].may = true := hm _ (List.getElem_mem hlt)
      have hiu : l[k].imm < 4294967296 := hu _ (List.getElem_mem hlt)
      have hIr := hI.below hS.bel hb
      have c0 := hIr.op k _ hi.out
      have c1 := hIr.dst k _ hi.out
      have c2 := hIr.src k _ hi.out
      have c3 := hIr.off k _ hi.out
      have c4 := hIr.imm k _ hi.out
      have hlt' : (k : Int) < l.length := by omega
      obtain ⟨i, hi'⟩ : ∃ i, i = l[k] := ⟨_, rfl⟩
      rw [← hi'] at c0 c1 c2 c3 c4 hi hmy hiu
      clear hi' hIr
      have HL : Hid ((headL ctx l.length ++ bodyL (l.take k)).length ≤ 100000) := by show _ ≤ _; rw [List.length_append, bodyL_len]; have := List.length_take_le k l; simp [headL, low2L]; omega
      obtain ⟨D, hD⟩ : ∃ D, D = headL ctx l.length ++ bodyL (l.take k) := ⟨_, rfl⟩
      have HD : Hid (headL ctx l.length ++ bodyL (l.take (k + 1)) = D ++ insL i) := by show _ = _; rw [bodyL_snoc l k i hi.out, hD, List.append_assoc]
      rw [← hD] at hS HL
      clear hD
      obtain ⟨⟨o1, o2⟩, ⟨d1, d2⟩, ⟨s1, s2⟩, ⟨f1, f2⟩⟩ := may_bounds hmy
      have hz : w.heap.size < wr.heap.size := hS.has.lt
      clear hmy
      obtain ⟨box, hbox⟩ : ∃ box, box = #[Value.int .i64 i.op, .int .i64 i.dst, .int .i64 i.src, .int .i64 i.off, .int .u32 i.imm] := ⟨_, rfl⟩
      have hB7 : Below wr.heap.size wr (wr.alloc (.cells box 43)) := (Below.refl _ _).alloc (Nat.le_refl _) _
      have hS7 := hS.below hB7
      have hX7 := has_new wr box 43 wr.heap.size rfl
      have hB8 : Below (wr.alloc (.cells box 43)).heap.size (wr.alloc (.cells box 43)) ((wr.alloc (.cells box 43)).alloc (.cells #[.int .u8 (bv (UInt8.ofNat i.op.toNat)), .int .u8 (bv (UInt8.ofNat (i.dst * 16 + i.src).toNat))] 5)) := (Below.refl _ _).alloc (Nat.le_refl _) _
      have hS8 := hS7.below hB8
      have hX8 := hX7.below hB8 hX7.lt
      have hb8 := two_bytes (wr.alloc (.cells box 43)) (UInt8.ofNat i.op.toNat) (UInt8.ofNat (i.dst * 16 + i.src).toNat)
      have e1 : bv (UInt8.ofNat i.op.toNat) = i.op := by rw [bv_of]; omega
      have e2 : bv (UInt8.ofNat (i.dst * 16 + i.src).toNat) = i.dst * 16 + i.src := by rw [bv_of]; omega
      have e3 : (wr.alloc (.cells box 43)).heap.size = wr.heap.size + 1 := by simp
      rw [e3] at hb8
      rw [e1, e2] at hb8 hS8 hX8
      subst hbox
      clear hB7 hS7 hX7 hB8 e1 e2 e3 hS
      obtain ⟨fN, hfN⟩ : ∃ fN : Nat, fN = (i.off % 4294967296).toNat := ⟨_, rfl⟩
      have e4 : i.off % 4294967296 = (fN : Int) := by omega
      have hfb : fN < 4294967296 := by omega
      have HI : Hid (insL i = [UInt8.ofNat i.op.toNat, UInt8.ofNat (i.dst * 16 + i.src).toNat] ++ (low2L fN ++ low4L i.imm)) := by show _ = _; rw [hfN]; rfl
      clear hfN
      go_wp2_with fail
      refine (lay1_any hS8.lay hb8 (by have := HL.out; simp; omega)).mono ?_
      rintro e W9 ⟨rfl, hL9, hB9, hK9⟩
      have hS9 := hS8.more hL9 hB9 hK9
      have hX9 := hK9 _ _ _ hX8 (by decide) (by decide)
      clear hb8 hS8 hX8 hL9 hB9 hK9
      have x3 := hX9.cell 3
      go_wp2_with fail
      refine (low2_any fN hfb _).mono ?_
      rintro e W10 ⟨v10, rfl, hb10, hB10⟩
      have hS10 := hS9.below hB10
      have hX10 := hX9.below hB10 hX9.lt
      clear x3 hS9 hX9 hB10 e4
      go_wp2_with fail
      refine (lay1_any hS10.lay hb10 (by have := HL.out; simp [low2L]; omega)).mono ?_
      rintro e W11 ⟨rfl, hL11, hB11, hK11⟩
      have hS11 := hS10.more hL11 hB11 hK11
      have hX11 := hK11 _ _ _ hX10 (by decide) (by decide)
      clear hb10 hS10 hX10 hL11 hB11 hK11
      have x4 := hX11.cell 4
      go_wp2_with fail
      refine (low4_any i.imm hiu _).mono ?_
      rintro e W12 ⟨v12, rfl, hb12, hB12⟩
      have hS12 := hS11.below hB12
      clear x4 hS11 hX11 hB12
      go_wp2_with fail
      refine (lay1_any hS12.lay hb12 (by have := HL.out; simp [low2L, low4L]; omega)).mono ?_
      rintro e W13 ⟨rfl, hL13, hB13, hK13⟩
      have hS13 := hS12.more hL13 hB13 hK13
      clear hS12 hb12 hL13 hB13 hK13
      go_wp2_with fail
      go_roundw
      case rel =>
        refine ⟨k + 1, by omega, by go_num, ?_⟩
        rw [HD.out, HI.out]
        simpa [List.append_assoc] using hS13
      case measure => simp [intOf]; omega
    · obtain rfl : k = l.length := by omega
      rw [List.take_length] at hS
      obtain ⟨⟨v, k1, k2, k3⟩, k4⟩ := hS.lay
      have q := k1.one
      go_wp2_with fail
      go_ret
      exact ⟨v, rfl, k2, k3, hS.bel⟩
end Go.Proofs.YtoalchlokcphkaaDoor
