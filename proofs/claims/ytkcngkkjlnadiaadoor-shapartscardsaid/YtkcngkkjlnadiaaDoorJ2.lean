/- The law ShaParts. -/
import Derived.Test.YtkcngkkjlnadiaaDoorJ1
import Derived.Deep.RegionHeld3
namespace Go.Proofs.YtkcngkkjlnadiaaDoor
open Go.RowKit

set_option maxRecDepth 10000 in
set_option maxHeartbeats 2000000 in
theorem parts_walk (v : Value) (ds : List (List UInt8)) (w : World) (hv : Rws w v ds) (hg0 : Glob w) :
    Calls Tryd.prog 4 #[v] w fun e w' => e = .returned (.bool true) ∧ Below w.heap.size w w' := by
  have hgs := hg0.size
  obtain ⟨a, cap, pb, po, rfl, ha, hcel, hpb⟩ := hv
  by_cases hl : ds.length ≤ 30
  · have i0 : ¬ (30 : Int) < (ds.length : Int) := by omega
    have HL : Hid (ds.length ≤ 30) := hl
    clear hl
    go_enter Tryd.func4, Tryd.ntmps4
    go_wp2_with fail
    go_loopw [3, 4, 5] (fun av mv i wr => ∃ k : Nat, k ≤ ds.length ∧ i = .int .i64 k ∧ Own w.heap.size wr av (ds.take k).flatten ∧ Hid ((ds.take k).flatten.length ≤ 300 * k) ∧ Below w.heap.size w wr ∧
        ∃ xs, Cps w.heap.size wr mv k ds xs ∧ Hid (∀ j sv, j < k → xs[j]? = some sv → sv.ownBlock = none ∨ sv.ownBlock ≠ av.ownBlock)) (fun _ _ i _ => ds.length - (intOf i).toNat)
    case atStart => exact ⟨0, by omega, rfl, Own.nil _ _, by show _ ≤ _; simp, Below.refl _ _, [], ⟨World.ownsRow_nil _ _ _ _, fun j hj => absurd hj (by omega)⟩, fun j sv hj => absurd hj (by omega)⟩
    case round =>
      obtain ⟨k, hk, rfl, ho, hfl, hB, xs, hC, hap⟩ := hrel
      by_cases hkn : k < ds.length
      · obtain rfl := ha (by intro e; simp [e] at hkn)
        obtain ⟨sv, hs1, hs2⟩ := hcel k hkn
        have i1 : (k : Int) < ds.length := by omega
        have c1 := (hB.cell (p := ⟨pb, po + k, none⟩) hpb).trans hs1
        have hsr := hs2.below hB
        have Hft : Hid ((ds.take (k + 1)).flatten = (ds.take k).flatten ++ ds[k]?.getD []) := flatten_take ds k hkn
        have Hdk : Hid (ds[k]?.getD [] = ds[k]?.getD []) := rfl
        have HK : Hid (k < ds.length) := hkn
        generalize hd : ds[k]?.getD [] = d at *
        have Hd : Hid (ds[k]?.getD [] = d) := hd
        obtain ⟨a1, cap1, db1, o1, rfl, _⟩ := id hsr
        have hsW : Bytes w (.slice a1 d.length cap1) d := hs2
        clear hd hs1 hs2 hcel hkn hk Hdk
        by_cases h3 : d.length ≤ 300
        · have i3 : ¬ (300 : Int) < (d.length : Int) := by omega
          have H3 : Hid (d.length ≤ 300) := h3
          clear h3
          obtain ⟨j0, hi, hz0, hz1, hz2⟩ := info_parts info22
          have hsm : Hid ((ds.take k).flatten.length + d.length ≤ 100000000000000) := by show _ ≤ _; have := hfl.out; have := H3.out; have := HL.out; have := HK.out; omega
          have hpr : Hid (pb < wr.heap.size) := Nat.lt_of_lt_of_le hpb hB.size
          go_wp2_with (first
            | (refine wpList_append_loc rfl _ _ 22 rfl info5 Tryd.underlying22 w.heap.size _ _ (ds.take k).flatten d rfl rfl ho hsr hsm.out hB.size ?_; intro v2 w2 ho2 hg2 hlc; have hB2 : Below w.heap.size wr w2 := grown_keeps ho hg2 hB.size; have c2 : w2.cell? ⟨pb, po + k, none⟩ = some (.slice a1 d.length cap1) := (hB2.cell (p := ⟨pb, po + k, none⟩) hpb).trans c1; have c2' : (w2.alloc (.cells #[] 5)).cell? ⟨pb, po + k, none⟩ = some (.slice a1 d.length cap1) := (World.cell?_of_block (w := w2) (by show (w2.alloc (.cells #[] 5)).heap[pb]? = _; rw [alloc_get, if_neg (by have := hg2.size; have := hpr.out; omega)])).trans c2)
            | (refine wpList_append_bytes rfl _ _ 22 rfl info5 Tryd.underlying22 w2.heap.size _ _ [] d rfl rfl (Own.made _ w2 (Nat.le_refl _)) (((hsW.below (hB.trans hB2))).below ((Below.refl _ _).alloc (Nat.le_refl _) _)) (by have := H3.out; simp; omega) (by simp) ?_; intro v3 w3 ho3 hg3; obtain ⟨a3, c3, rfl⟩ := ho3.slice; have hB3 : Below w2.heap.size w2 w3 := ((Below.refl _ _).alloc (Nat.le_refl _) _).trans (grown_keeps (Own.made _ w2 (Nat.le_refl _)) hg3 (by simp)); have hC2 : Cps w.heap.size w2 u4 k ds xs := hC.kept hg2 (own_apart hC.own ho (by decide)) hap.out; have hC3 := hC2.below hB3; have hsz3 : w.heap.size ≤ w3.heap.size := Nat.le_trans (Nat.le_trans hB.size hB2.size) hB3.size; have hn3 := has_new w3 #[Value.slice a3 ([] ++ d).length c3] 22 w3.heap.size rfl)
            | (refine wpList_append_own _ rfl _ _ 28 rfl w.heap.size 22 j0 (.slice none 0 0) 1 24 Tryd.underlying28 hi hz0 hz1 hz2 rfl (by omega) _ k xs rfl (hC3.own.alloc _) ⟨w3.heap.size, 0, none⟩ 1 1 [Value.slice a3 ([] ++ d).length c3] rfl rfl (fun j u hu => by rw [Addr.add_mid, Nat.zero_add]; refine (hn3.cell j).trans ?_; rw [← hu]; simp) (fun u hu => by simp at hu; subst hu; rfl) (by have := HK.out; have := HL.out; simp only [maxLen]; omega) (by have := HK.out; have := HL.out; omega) (by simp; omega) ?_; intro v4 w4 hown4 hg4 hnil; clear hnil))
          have hxl : xs.length = k := by have := hC.own.1; omega
          have hg4' : (w3.alloc (.cells #[Value.slice a3 ([] ++ d).length c3] 22)).grownBy w4 u4.ownBlock := hg4
          have hlc' : Loc wr u3 v2 := hlc
          clear hg4 hlc
          have hBw3 : Below w.heap.size w w3 := (hB.trans hB2).trans (hB3.mono (Nat.le_trans hB.size hB2.size))
          have hB4 : Below w.heap.size w w4 := below_grown hBw3 hg4' (fun g hg => (hC.own.lt g hg).1)
          have ho4 : Own w.heap.size w4 v2 ((ds.take k).flatten ++ d) := World.ownsRow.kept ((ho2.below hB3).alloc _) hg4' (own_apart (ho2.below hB3) hC3.own (by decide))
          have hv3 : Own w.heap.size w4 (Value.slice a3 ([] ++ d).length c3) ([] ++ d) := World.ownsRow.kept ((ho3.mono (Nat.le_trans hB.size hB2.size)).alloc _) hg4' (own_apart ho3 hC3.own (by decide))
          have hC4 : Cps w.heap.size w4 v4 (k + 1) ds (xs ++ [Value.slice a3 ([] ++ d).length c3]) := ⟨hown4, fun j hj => by
            by_cases hjk : j < k
            · obtain ⟨sv, e1, e2⟩ := hC3.each j hjk
              exact ⟨sv, by rw [List.getElem?_append_left (by omega)]; exact e1, World.ownsRow.kept (e2.alloc _) hg4' (own_apart e2 hC3.own (by decide))⟩
            · obtain rfl : j = k := by omega
              refine ⟨_, by rw [List.getElem?_append_right (by omega), hxl, Nat.sub_self]; rfl, ?_⟩
              rw [Hd.out]; exact hv3⟩
          refine ⟨⟨k + 1, HK.out, by go_num, by rw [Hft.out]; exact ho4, by show _ ≤ _; rw [Hft.out, List.length_append]; have := hfl.out; have := H3.out; omega, hB4, _, hC4, fun j sv hj hx => ?_⟩, by have := HK.out; simp [intOf]; omega⟩
          by_cases hjk : j < k
          · rw [List.getElem?_append_left (by omega)] at hx
            obtain ⟨sv', e1, e2⟩ := hC.each j hjk
            obtain rfl : sv' = sv := by rw [e1] at hx; exact Option.some.inj hx
            rcases hap.out j sv' hjk e1 with h | h
            · exact .inl h
            · cases hsb : sv'.ownBlock with
              | none => exact .inl rfl
              | some g =>
                right
                intro hvb
                rcases hlc' g hvb.symm with h1 | h1
                · exact h (hsb.trans h1.symm)
                · have := (World.ownsRow.lt e2 g hsb).2; omega
          · obtain rfl : j = k := by omega
            rw [List.getElem?_append_right (by omega), hxl, Nat.sub_self] at hx
            obtain rfl : Value.slice a3 ([] ++ d).length c3 = sv := by simpa using hx
            cases hsb : (Value.slice a3 ([] ++ d).length c3).ownBlock with
            | none => exact .inl rfl
            | some g =>
              right
              intro hvb
              have h1 := (World.ownsRow.lt ho3 g hsb).1
              have h2 := (World.ownsRow.lt ho2 g hvb.symm).2
              omega
        · have i3 : (300 : Int) < (d.length : Int) := by omega
          clear h3
          go_wp2_with fail
          refine (works_any _ (hg0.below hB hgs)).mono ?_
          rintro e W ⟨rfl, hBx⟩
          go_wp2_with fail
          go_ret
          exact ⟨rfl, hB.trans (hBx.mono hB.size)⟩
      · obtain rfl : k = ds.length := by omega
        rw [List.take_of_length_le (Nat.le_refl _)] at ho hfl
        obtain ⟨am, cm, rfl⟩ : ∃ a c, u4 = .slice a ds.length c := by
          rcases hC.own.2 with ⟨h1, h2⟩ | ⟨g, c, cur, h1, _⟩
          · exact ⟨none, 0, by rw [h1, h2]⟩
          · exact ⟨_, c, h1⟩
        have hpt := hC.parts (by have := hB.size; omega) (by have := hfl.out; have := HL.out; omega) (by have := HL.out; omega)
        have hyt := ho.bytes (by have := hB.size; omega)
        have q := eq_same (shaL ds.flatten) (shaL_length _)
        clear hkn hk
        go_wp2_with fail
        refine (of_any _ ds wr hpt (hg0.below hB hgs)).mono ?_
        rintro e W1 ⟨rfl, hB1⟩
        go_wp2_with fail
        refine (refsum_any _ ds.flatten W1 (hyt.below hB1) (by have := hfl.out; have := HL.out; omega)).mono ?_
        rintro e W2 ⟨rfl, hB2⟩
        have hC2 := (hC.below hB1).below hB2
        have hBa : Below w.heap.size w W2 := (hB.trans (hB1.mono hB.size)).trans (hB2.mono (Nat.le_trans hB.size hB1.size))
        have hpt2 := hC2.parts (by have := hBa.size; omega) (by have := hfl.out; have := HL.out; omega) (by have := HL.out; omega)
        clear hpt hyt hB1 hB2 hC ho hB hap hC2
        go_wp2_with fail
        go_loopw [6, 7] (fun b i wr => ∃ k : Nat, k ≤ ds.length ∧ i = .int .i64 k ∧ b = .bool true ∧ Hid (∃ n, wr = W2.drewN n)) (fun _ i _ => ds.length - (intOf i).toNat)
        case atStart => exact ⟨0, by omega, rfl, rfl, 0, rfl⟩
        case round =>
          obtain ⟨k, hk, rfl, rfl, hn⟩ := hrel
          by_cases hkn : k < ds.length
          · obtain rfl := ha (by intro e; simp [e] at hkn)
            obtain ⟨sv, hs1, hs2⟩ := hcel k hkn
            obtain ⟨am', cm', pm, om, e1, ham, hcm, hpm, _, _⟩ := hpt2
            obtain ⟨rfl, rfl⟩ : am = am' ∧ cm = cm' := by simpa using e1
            obtain rfl := ham (by intro e; simp [e] at hkn)
            obtain ⟨sm, hm1, hm2⟩ := hcm k hkn
            obtain ⟨nn, rfl⟩ := hn.out
            have i1 : (k : Int) < ds.length := by omega
            have c1 : (W2.drewN nn).cell? ⟨pm, om + k, none⟩ = some sm := hm1
            have c2 : (W2.drewN nn).cell? ⟨pb, po + k, none⟩ = some sv := (hBa.cell (p := ⟨pb, po + k, none⟩) hpb).trans hs1
            have b1 : Bytes (W2.drewN nn) sm (ds[k]?.getD []) := hm2
            have hs3 : Bytes W2 sv (ds[k]?.getD []) := hs2.below hBa
            have b2 : Bytes (W2.drewN nn) sv (ds[k]?.getD []) := hs3
            have b1' : Bytes (W2.drewN nn).drew sm (ds[k]?.getD []) := hm2
            have b2' : Bytes (W2.drewN nn).drew sv (ds[k]?.getD []) := hs3
            obtain ⟨ax, cx, _, _, rfl, _⟩ := id b1
            obtain ⟨ay, cy, _, _, rfl, _⟩ := id b2
            have s1 := bytes_string _ _ _ b1
            have s2 := bytes_string _ _ _ b2
            have s1' := bytes_string _ _ _ b1'
            have s2' := bytes_string _ _ _ b2'
            have c1' : (W2.drewN nn).drew.cell? ⟨pm, om + k, none⟩ = some (.slice ax (ds[k]?.getD []).length cx) := c1
            have c2' : (W2.drewN nn).drew.cell? ⟨pb, po + k, none⟩ = some (.slice ay (ds[k]?.getD []).length cy) := c2
            have HK : Hid (k < ds.length) := hkn
            have hn' : Hid (∃ n, (W2.drewN nn).drew = W2.drewN n) := ⟨nn + 1, by show (W2.drewN nn).drewN 1 = _; rw [World.drewN_drewN]⟩
            clear b1 b2 b1' b2' hm1 hm2 hs1 hs2 hs3 hcm hcel hkn hk e1 hn
            generalize ds[k]?.getD [] = dk at *
            obtain ⟨T, hT⟩ : ∃ T : ByteArray, T = ⟨dk.toArray⟩ := ⟨_, rfl⟩
            rw [← hT] at s1 s2 s1' s2'
            clear hT
            generalize dk.length = dl at *
            generalize W2.drewN nn = X at *
            go_wp2_with fail
            go_region_held3 (fun W => W.cell? ⟨pm, om + k, none⟩ = some (.slice ax dl cx) ∧ W.cell? ⟨pb, po + k, none⟩ = some (.slice ay dl cy) ∧ (convert 22 9 (.slice ax dl cx)).run Tryd.prog W = .ok (.string T) W ∧ (convert 22 9 (.slice ay dl cy)).run Tryd.prog W = .ok (.string T) W) (first | exact ⟨c1, c2, s1, s2⟩ | exact ⟨c1', c2', s1', s2'⟩) (fail)
            go_wp2_with fail
            go_roundw
            case rel => exact ⟨k + 1, HK.out, by go_num, rfl, hn'⟩
            case measure => have := HK.out; simp [intOf]; omega
          · obtain ⟨nn, rfl⟩ := hn.out
            have hBz : Below w.heap.size w (W2.drewN nn) := ⟨hBa.os, hBa.tape, hBa.output, hBa.size, hBa.block⟩
            obtain rfl : k = ds.length := by omega
            clear hkn hk hcel hn
            go_wp2_with fail
            refine (works_any _ (hg0.below hBz hgs)).mono ?_
            rintro e W ⟨rfl, hBx⟩
            go_wp2_with fail
            go_ret
            exact ⟨rfl, hBz.trans (hBx.mono hBz.size)⟩
  · have i0 : (30 : Int) < (ds.length : Int) := by omega
    go_enter Tryd.func4, Tryd.ntmps4
    go_wp2_with fail
    refine (works_any _ hg0).mono ?_
    rintro e W ⟨rfl, hB⟩
    go_wp2_with fail
    go_ret
    exact ⟨rfl, hB⟩
end Go.Proofs.YtkcngkkjlnadiaaDoor
