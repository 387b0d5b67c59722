/- The document's Bytes. -/
import Derived.Test.YtoalchlokcphkaaDoorG1
import Derived.Test.YtoalchlokcphkaaDoorM1
import Derived.Laws.OwnMore
namespace Go.Proofs.YtoalchlokcphkaaDoor
open Go.RowKit

theorem own_lit (w : World) (l : List UInt8) (hl : l.length ≤ 1000000) : Own (w.alloc (.cells (byteCells l) 5)) (.slice (some ⟨w.heap.size, 0, none⟩) l.length l.length) l := by
  have := World.ownsRow_lit (base := 0) (e := 5) (size := 1) w (byteCells l) l.length (Nat.zero_le _) (by unfold maxLen; omega) (by simp [byteCells])
  simpa [byteCells] using this
theorem low2_mod {a b : Nat} (h : a % 65536 = b % 65536) : low2L a = low2L b := by
  unfold low2L
  rw [show UInt8.ofNat a = UInt8.ofNat b from UInt8.toNat_inj.1 (by rw [UInt8.toNat_ofNat', UInt8.toNat_ofNat']; omega), show UInt8.ofNat (a / 256) = UInt8.ofNat (b / 256) from UInt8.toNat_inj.1 (by rw [UInt8.toNat_ofNat', UInt8.toNat_ofNat']; omega)]
set_option maxRecDepth 10000 in
set_option maxHeartbeats 2000000 in
theorem rbytes_any (ctx : Nat) (sv : Value) (l : List Ins) (w : World) (hP : Prg w sv l) (hl : l.length ≤ 256) (hc : ctx ≤ 256) (hm : ∀ i ∈ l, i.may = true) (hu : ∀ i ∈ l, i.imm < 4294967296) :
    Calls Tryd.prog 16 #[.agg #[.int .i64 ctx, sv]] w fun e w' => ∃ v, e = .returned v ∧ New w w' v (progL ctx l) := by
  obtain ⟨a, cap, b, o, rfl, ha, hI, hb⟩ := hP
  obtain ⟨W0, hW0⟩ : ∃ W0, W0 = (w.alloc (.cells #[.int .i64 ctx, .slice a l.length cap] 24)).alloc (.cells #[.int .u8 67, .int .u8 88] 5) := ⟨_, rfl⟩
  have hX0 : Has W0 w.heap.size #[.int .i64 ctx, .slice a l.length cap] 24 := by rw [hW0]; exact has_old (has_new _ _ _ _ rfl)
  have hN0 : New w W0 (.slice (some ⟨w.heap.size + 1, 0, none⟩) 2 2) [67, 88] := by
    rw [hW0]
    refine ⟨?_, fun k hk => ?_, ((Below.refl _ _).alloc (Nat.le_refl _) _).alloc (by simp) _⟩
    · have := own_lit (w.alloc (.cells #[.int .i64 ctx, .slice a l.length cap] 24)) [67, 88] (by decide)
      rw [show (w.alloc (.cells #[.int .i64 ctx, .slice a l.length cap] 24)).heap.size = w.heap.size + 1 by simp] at this
      exact this
    · simp [Value.ownBlock] at hk; omega
  have e0 := hX0.cell 0
  have e1 := hX0.cell 1
  rw [hW0] at e0 e1
  have HL2 : Hid (∀ n, lowL n 2 = low2L n) := lowL_two
  have HL4 : Hid (∀ n, lowL n 4 = low4L n) := lowL_four
  go_enter Tryd.func16, Tryd.ntmps16
  go_wp2_with fail
  rw [← hW0]
  clear e0 e1 hW0
  refine (rlow_any ctx 2 (by omega) (by omega) W0).mono ?_
  rintro e W1 ⟨v1, rfl, hN1⟩
  rw [HL2.out] at hN1
  have hX := hN0.more hN1.bel
  have hb1 := hN1.own.bytes (by have := hX0.lt; have := hN1.bel.size; omega)
  have hX1 := hX0.below hN1.bel hX0.lt
  clear hN0 hX0 hN1
  have e1 := hX1.cell 1
  go_wp2_with (refine wpList_append_bytes _ rfl _ _ 27 27 rfl info5 Tryd.underlying27 Tryd.underlying27 _ _ [67, 88] (low2L ctx) rfl rfl hX.own hb1 (by simp [low2L]) ?_; intro v' w2 hown2 hgr hloc hnil; clear hnil; have hN2 := hX.step hown2 hgr hloc; have hX2 := hX.has hgr hX1 (by decide); have e2 := hX2.cell 1; obtain ⟨a', c', m', hv'⟩ := hown2.sl; subst hv'; clear hown2 hgr hloc hX hb1 hX1 e1)
  refine (rlow_any l.length 2 (by omega) (by omega) w2).mono ?_
  rintro e W3 ⟨v3, rfl, hN3⟩
  rw [HL2.out] at hN3
  have hX := hN2.more hN3.bel
  have hb3 := hN3.own.bytes (by have := hX2.lt; have := hN3.bel.size; omega)
  have hX3 := hX2.below hN3.bel hX2.lt
  clear hN2 hX2 hN3 e2
  have e1 := hX3.cell 1
  go_wp2_with (refine wpList_append_bytes _ rfl _ _ 27 27 rfl info5 Tryd.underlying27 Tryd.underlying27 _ _ ([67, 88] ++ low2L ctx) (low2L l.length) rfl rfl hX.own hb3 (by simp [low2L]) ?_; intro v' w2 hown2 hgr hloc hnil; clear hnil; have hN4 := hX.step hown2 hgr hloc; have hX4 := hX.has hgr hX3 (by decide); obtain ⟨a', c', m', hv'⟩ := hown2.sl; subst hv'; clear hown2 hgr hloc hX hb3 hX3 e1)
  rename World => W4
  go_loopw [3, 4] (fun v iv wr => ∃ k : Nat, k ≤ l.length ∧ iv = .int .i64 k ∧ New w wr v (headL ctx l.length ++ bodyL (l.take k)) ∧ Has wr w.heap.size #[.int .i64 ctx, .slice a l.length cap] 24) (fun _ iv _ => l.length - (intOf iv).toNat)
  case atStart => exact ⟨0, Nat.zero_le _, rfl, by have : bodyL (l.take 0) = [] := rfl; rw [this, List.append_nil]; exact hN4, hX4⟩
  case round =>
    obtain ⟨k, hk, rfl, hN, hX24⟩ := hrel
    clear hN4 hX4
    have y1 := hX24.cell 1
    by_cases hlt : k < l.length
    · have hne : l ≠ [] := fun e => by rw [e] at hlt; simp at hlt
      obtain rfl := ha hne
      have hi : Hid (l[k]? = some l[k]) := List.getElem?_eq_getElem hlt
      have hmy : l[k].may = true := hm _ (List.getElem_mem hlt)
      have hiu : l[k].imm < 4294967296 := hu _ (List.getElem_mem hlt)
      have hIr := hI.below hN.bel hb
      have c0 := hIr.op k _ hi.out
      have c1 := hIr.dst k _ hi.out
      have c2 := hIr.src k _ hi.out
      have c3 := hIr.off k _ hi.out
      have c4 := hIr.imm k _ hi.out
      have hlt' : (k : Int) < l.length := by omega
      obtain ⟨i, hi'⟩ : ∃ i, i = l[k] := ⟨_, rfl⟩
      rw [← hi'] at c0 c1 c2 c3 c4 hi hmy hiu
      clear hi' hIr
      have HL : Hid ((headL ctx l.length ++ bodyL (l.take k)).length ≤ 100000) := by show _ ≤ _; rw [List.length_append, bodyL_len]; have := List.length_take_le k l; simp [headL, low2L]; omega
      obtain ⟨D, hD⟩ : ∃ D, D = headL ctx l.length ++ bodyL (l.take k) := ⟨_, rfl⟩
      have HD : Hid (headL ctx l.length ++ bodyL (l.take (k + 1)) = D ++ insL i) := by show _ = _; rw [bodyL_snoc l k i hi.out, hD, List.append_assoc]
      rw [← hD] at hN HL
      clear hD
      obtain ⟨⟨o1, o2⟩, ⟨d1, d2⟩, ⟨s1, s2⟩, ⟨f1, f2⟩⟩ := may_bounds hmy
      have hz : w.heap.size < wr.heap.size := hX24.lt
      clear hmy
      obtain ⟨a0, c0', m0, hv0⟩ := hN.own.sl
      subst hv0
      obtain ⟨box, hbox⟩ : ∃ box, box = #[Value.int .i64 i.op, .int .i64 i.dst, .int .i64 i.src, .int .i64 i.off, .int .u32 i.imm] := ⟨_, rfl⟩
      have hB7 : Below wr.heap.size wr (wr.alloc (.cells box 43)) := (Below.refl _ _).alloc (Nat.le_refl _) _
      have hX7 := has_new wr box 43 wr.heap.size rfl
      have hB8 : Below (wr.alloc (.cells box 43)).heap.size (wr.alloc (.cells box 43)) ((wr.alloc (.cells box 43)).alloc (.cells #[.int .u8 (bv (UInt8.ofNat i.op.toNat)), .int .u8 (bv (UInt8.ofNat (i.dst * 16 + i.src).toNat))] 5)) := (Below.refl _ _).alloc (Nat.le_refl _) _
      have hX := (hN.more hB7).more hB8
      have hX24' := (hX24.below hB7 hX24.lt).below hB8 (Nat.lt_of_lt_of_le hX24.lt hB7.size)
      have hX8 := hX7.below hB8 hX7.lt
      have hb8 := two_bytes (wr.alloc (.cells box 43)) (UInt8.ofNat i.op.toNat) (UInt8.ofNat (i.dst * 16 + i.src).toNat)
      have e1 : bv (UInt8.ofNat i.op.toNat) = i.op := by rw [bv_of]; omega
      have e2 : bv (UInt8.ofNat (i.dst * 16 + i.src).toNat) = 16 * i.dst + i.src := by rw [bv_of]; omega
      have e3 : (wr.alloc (.cells box 43)).heap.size = wr.heap.size + 1 := by simp
      rw [e3] at hb8
      rw [e1, e2] at hb8 hX8 hX hX24'
      subst hbox
      clear hB7 hX7 hB8 e1 e2 e3 hN hX24
      have HLI : Hid (∀ f : Nat, f % 65536 = (i.off % 4294967296).toNat % 65536 → insL i = [UInt8.ofNat i.op.toNat, UInt8.ofNat (i.dst * 16 + i.src).toNat] ++ (low2L f ++ low4L i.imm)) := fun f hf => by unfold insL; rw [low2_mod hf]
      by_cases hneg : i.off < 0
      · obtain ⟨fN, hfN⟩ : ∃ fN : Nat, (fN : Int) = i.off + 65536 := ⟨(i.off + 65536).toNat, by omega⟩
        have hlow := fun W => rlow_any fN 2 (by omega) (by omega) W
        have HI := HLI.out fN (by omega)
        simp only [hfN, HL2.out] at hlow
        have HI' : Hid (insL i = [UInt8.ofNat i.op.toNat, UInt8.ofNat (i.dst * 16 + i.src).toNat] ++ (low2L fN ++ low4L i.imm)) := HI
        have hlow4 := fun W => rlow_any i.imm 4 (by omega) (by omega) W
        simp only [HL4.out] at hlow4
        clear HI HLI hfN
        go_wp2_with (refine wpList_append_bytes _ rfl _ _ 27 27 rfl info5 Tryd.underlying27 Tryd.underlying27 _ _ D [UInt8.ofNat i.op.toNat, UInt8.ofNat (i.dst * 16 + i.src).toNat] rfl rfl hX.own hb8 (by have := HL.out; simp; omega) ?_; intro v' w2 hown2 hgr hloc hnil; clear hnil; have hN9 := hX.step hown2 hgr hloc; have hX9 := hX.has hgr hX8 (by decide); have hY9 := hX.has hgr hX24' (by decide); obtain ⟨a', c', m', hv'⟩ := hown2.sl; subst hv'; clear hown2 hgr hloc hX hb8 hX8 hX24')
        refine (hlow _).mono ?_
        rintro e W10 ⟨v10, rfl, hN10⟩
        have hX := hN9.more hN10.bel
        have hX10 := hX9.below hN10.bel hX9.lt
        have hY10 := hY9.below hN10.bel hY9.lt
        have hb10 := hN10.own.bytes (by have := hY10.lt; omega)
        have x4 := hX10.cell 4
        clear hN9 hX9 hY9 hN10 hlow
        go_wp2_with (refine wpList_append_bytes _ rfl _ _ 27 27 rfl info5 Tryd.underlying27 Tryd.underlying27 _ _ (D ++ [UInt8.ofNat i.op.toNat, UInt8.ofNat (i.dst * 16 + i.src).toNat]) (low2L fN) rfl rfl hX.own hb10 (by have := HL.out; simp [low2L]; omega) ?_; intro v' w2 hown2 hgr hloc hnil; clear hnil; have hN11 := hX.step hown2 hgr hloc; have hX11 := hX.has hgr hX10 (by decide); have hY11 := hX.has hgr hY10 (by decide); obtain ⟨a', c', m', hv'⟩ := hown2.sl; subst hv'; clear hown2 hgr hloc hX hb10 hX10 hY10 x4; have x4 := hX11.cell 4)
        refine (hlow4 _).mono ?_
        rintro e W12 ⟨v12, rfl, hN12⟩
        have hX := hN11.more hN12.bel
        have hY12 := hY11.below hN12.bel hY11.lt
        have hb12 := hN12.own.bytes (by have := hY12.lt; omega)
        clear hN11 hX11 hY11 hN12 hlow4 x4
        go_wp2_with (refine wpList_append_bytes _ rfl _ _ 27 27 rfl info5 Tryd.underlying27 Tryd.underlying27 _ _ ((D ++ [UInt8.ofNat i.op.toNat, UInt8.ofNat (i.dst * 16 + i.src).toNat]) ++ low2L fN) (low4L i.imm) rfl rfl hX.own hb12 (by have := HL.out; simp [low2L, low4L]; omega) ?_; intro v' w2 hown2 hgr hloc hnil; clear hnil; have hN13 := hX.step hown2 hgr hloc; have hY13 := hX.has hgr hY12 (by decide); obtain ⟨a', c', m', hv'⟩ := hown2.sl; subst hv'; clear hown2 hgr hloc hX hb12 hY12)
        go_roundw
        case rel =>
          refine ⟨k + 1, by omega, by go_num, ?_, hY13⟩
          rw [HD.out, HI'.out]
          simpa [List.append_assoc] using hN13
        case measure => simp [intOf]; omega
      · obtain ⟨fN, hfN⟩ : ∃ fN : Nat, (fN : Int) = i.off := ⟨(i.off).toNat, by omega⟩
        have hlow := fun W => rlow_any fN 2 (by omega) (by omega) W
        have HI := HLI.out fN (by omega)
        simp only [hfN, HL2.out] at hlow
        have HI' : Hid (insL i = [UInt8.ofNat i.op.toNat, UInt8.ofNat (i.dst * 16 + i.src).toNat] ++ (low2L fN ++ low4L i.imm)) := HI
        have hlow4 := fun W => rlow_any i.imm 4 (by omega) (by omega) W
        simp only [HL4.out] at hlow4
        clear HI HLI hfN
        go_wp2_with (refine wpList_append_bytes _ rfl _ _ 27 27 rfl info5 Tryd.underlying27 Tryd.underlying27 _ _ D [UInt8.ofNat i.op.toNat, UInt8.ofNat (i.dst * 16 + i.src).toNat] rfl rfl hX.own hb8 (by have := HL.out; simp; omega) ?_; intro v' w2 hown2 hgr hloc hnil; clear hnil; have hN9 := hX.step hown2 hgr hloc; have hX9 := hX.has hgr hX8 (by decide); have hY9 := hX.has hgr hX24' (by decide); obtain ⟨a', c', m', hv'⟩ := hown2.sl; subst hv'; clear hown2 hgr hloc hX hb8 hX8 hX24')
        refine (hlow _).mono ?_
        rintro e W10 ⟨v10, rfl, hN10⟩
        have hX := hN9.more hN10.bel
        have hX10 := hX9.below hN10.bel hX9.lt
        have hY10 := hY9.below hN10.bel hY9.lt
        have hb10 := hN10.own.bytes (by have := hY10.lt; omega)
        have x4 := hX10.cell 4
        clear hN9 hX9 hY9 hN10 hlow
        go_wp2_with (refine wpList_append_bytes _ rfl _ _ 27 27 rfl info5 Tryd.underlying27 Tryd.underlying27 _ _ (D ++ [UInt8.ofNat i.op.toNat, UInt8.ofNat (i.dst * 16 + i.src).toNat]) (low2L fN) rfl rfl hX.own hb10 (by have := HL.out; simp [low2L]; omega) ?_; intro v' w2 hown2 hgr hloc hnil; clear hnil; have hN11 := hX.step hown2 hgr hloc; have hX11 := hX.has hgr hX10 (by decide); have hY11 := hX.has hgr hY10 (by decide); obtain ⟨a', c', m', hv'⟩ := hown2.sl; subst hv'; clear hown2 hgr hloc hX hb10 hX10 hY10 x4; have x4 := hX11.cell 4)
        refine (hlow4 _).mono ?_
        rintro e W12 ⟨v12, rfl, hN12⟩
        have hX := hN11.more hN12.bel
        have hY12 := hY11.below hN12.bel hY11.lt
        have hb12 := hN12.own.bytes (by have := hY12.lt; omega)
        clear hN11 hX11 hY11 hN12 hlow4 x4
        go_wp2_with (refine wpList_append_bytes _ rfl _ _ 27 27 rfl info5 Tryd.underlying27 Tryd.underlying27 _ _ ((D ++ [UInt8.ofNat i.op.toNat, UInt8.ofNat (i.dst * 16 + i.src).toNat]) ++ low2L fN) (low4L i.imm) rfl rfl hX.own hb12 (by have := HL.out; simp [low2L, low4L]; omega) ?_; intro v' w2 hown2 hgr hloc hnil; clear hnil; have hN13 := hX.step hown2 hgr hloc; have hY13 := hX.has hgr hY12 (by decide); obtain ⟨a', c', m', hv'⟩ := hown2.sl; subst hv'; clear hown2 hgr hloc hX hb12 hY12)
        go_roundw
        case rel =>
          refine ⟨k + 1, by omega, by go_num, ?_, hY13⟩
          rw [HD.out, HI'.out]
          simpa [List.append_assoc] using hN13
        case measure => simp [intOf]; omega
    · obtain rfl : k = l.length := by omega
      rw [List.take_length] at hN
      obtain ⟨a0, c0', m0, hv0⟩ := hN.own.sl
      subst hv0
      clear hlt hk
      go_wp2
      go_ret
      exact ⟨_, rfl, hN⟩
end Go.Proofs.YtoalchlokcphkaaDoor
