/- Two digests held against one another; works(): the digest of three bytes, and its text. -/
import Derived.Test.YtkcngkkjlnadiaaDoorB4
import Derived.Lib.SlBytesConst
import Derived.Test.YtkcngkkjlnadiaaDoorR3
namespace Go.Proofs.YtkcngkkjlnadiaaDoor
open Go.RowKit
theorem part_byte (x : List UInt8) (i : Nat) (h : i < x.length) (w : World) : (part 5 (byteCells x) (i * 1)).run Tryd.prog w = .ok (.int .u8 (bv (x[i]?.getD 0))) w := by
  have hb := byteCells_at x i h
  rw [Nat.mul_one]
  simp [part, go_sem, hb]
theorem eq_arr (x y : List UInt8) (hx : x.length = 32) (hy : y.length = 32) (d : Nat) (w : World) :
    (Op.equalIn (d + 1 + 1) 25 (.agg (byteCells x)) (.agg (byteCells y))).run Tryd.prog w = .ok (x == y) w := by
  have hs : (sizeOf 5).run Tryd.prog w = .ok 1 w := by kernel_rfl
  rw [Op.equalIn]
  simp only [Sem.run_bind, run_underlying Tryd.underlying25, Result.andThen, hs]
  have key : ∀ (n k : Nat), k + n = 32 → (forIn (List.range' k n) ((none : Option Bool), ()) (fun i __s => do
            let __do_lift ← part 5 (byteCells x) (i * 1)
            let __do_lift_1 ← part 5 (byteCells y) (i * 1)
            let __do_lift ← Op.equalIn (d + 1) 5 __do_lift __do_lift_1
            if (!__do_lift) = true then pure (ForInStep.done (some false, ())) else pure (ForInStep.yield (none, ())))).run Tryd.prog w
        = .ok (if x.drop k = y.drop k then none else some false, ()) w := by
    intro n
    induction n with
    | zero =>
      intro k hk
      rw [if_pos (by rw [List.drop_of_length_le (by omega), List.drop_of_length_le (by omega)])]
      simp [Sem.run_pure]
    | succ n ih =>
      intro k hk
      rw [List.range'_succ, List.forIn_cons]
      have ex := part_byte x k (by omega) w
      have ey := part_byte y k (by omega) w
      simp only [Sem.run_bind, ex, ey, Result.andThen, run_equalIn_int w d 5 .u8 .u8 _ _ Tryd.underlying5]
      have hdx : x.drop k = x[k] :: x.drop (k + 1) := List.drop_eq_getElem_cons (by omega)
      have hdy : y.drop k = y[k] :: y.drop (k + 1) := List.drop_eq_getElem_cons (by omega)
      have gx : x[k]?.getD 0 = x[k] := by simp [show k < x.length by omega]
      have gy : y[k]?.getD 0 = y[k] := by simp [show k < y.length by omega]
      rw [gx, gy]
      have hdd : (x.drop k = y.drop k) = (x[k] = y[k] ∧ x.drop (k + 1) = y.drop (k + 1)) := by rw [hdx, hdy, List.cons.injEq]
      by_cases e : x[k] = y[k]
      · have eb : (bv x[k] == bv y[k]) = true := by rw [e]; simp
        simp only [eb, Bool.not_true, Bool.false_eq_true, if_false, Sem.run_pure]
        rw [ih (k + 1) (by omega)]
        simp only [hdd, e, true_and]
      · have eb : (bv x[k] == bv y[k]) = false := by
          rw [beq_eq_false_iff_ne]; intro h; apply e; unfold bv at h; exact UInt8.toNat_inj.1 (by omega)
        simp only [eb, Bool.not_false, if_true, Sem.run_pure]
        simp only [hdd, e, false_and, if_false]
  have := key 32 0 rfl
  rw [List.drop_zero, List.drop_zero] at this
  simp only [Std.Legacy.Range.forIn_eq_forIn_range', Std.Legacy.Range.size, Nat.sub_zero, Nat.add_sub_cancel, Nat.div_one]
  rw [this]
  by_cases e : x = y
  · simp [e, Sem.run_pure]
  · simp [e, Sem.run_pure]

theorem eq_dig (x y : List UInt8) (hx : x.length = 32) (hy : y.length = 32) (w : World) :
    (Op.equalIn 10000 25 (.agg (byteCells x)) (.agg (byteCells y))).run Tryd.prog w = .ok (x == y) w := eq_arr x y hx hy 9998 w

def abcD : List UInt8 := [186,120,22,191,143,1,207,234,65,65,64,222,93,174,34,35,176,3,97,163,150,23,122,156,180,16,255,97,242,0,21,173]
def abcT : List UInt8 := [98,97,55,56,49,54,98,102,56,102,48,49,99,102,101,97,52,49,52,49,52,48,100,101,53,100,97,101,50,50,50,51,98,48,48,51,54,49,97,51,57,54,49,55,55,97,57,99,98,52,49,48,102,102,54,49,102,50,48,48,49,53,97,100]
theorem abc_sha : shaL [97, 98, 99] = abcD := by decide +kernel
theorem abc_text : textL abcD = abcT := by decide +kernel
theorem abc_parse : parseD abcT = abcD ∧ parseE abcT = 0 := by decide +kernel
theorem ba_parse : parseD [66, 65] = List.replicate 32 0 ∧ parseE [66, 65] = 110 := by decide +kernel

theorem bytes_mark (w : World) (l : List UInt8) (t n : Nat) (fr : Nat × Nat) (hn : n = l.length) : Bytes (w.alloc (.cells (byteCells l) t fr)) (.slice (some ⟨w.heap.size, 0, none⟩) n n) l := by
  subst hn
  refine ⟨_, _, w.heap.size, 0, rfl, Nat.le_refl _, fun _ => rfl, fun j hj => ?_, by simp⟩
  have : (w.alloc (.cells (byteCells l) t fr)).heap[w.heap.size]? = some (.cells (byteCells l) t fr) := by rw [alloc_get, if_pos rfl]
  rw [cell_of_row _ _ _ _ _ _ this, Nat.zero_add]
  exact byteCells_at l j hj

/-- A row of bytes that was just laid. -/
def LitAt (N : Nat) (w : World) (v : Value) (l : List UInt8) : Prop := ∃ g, v = .slice (some ⟨g, 0, none⟩) l.length l.length ∧ N ≤ g ∧ g < w.heap.size ∧ w.shape? g = some (5, l.length) ∧ ∀ j, w.cell? ⟨g, j, none⟩ = (byteCells l)[j]?
theorem LitAt.new {N : Nat} (w : World) (l : List UInt8) (hN : N ≤ w.heap.size) : LitAt N (w.alloc (.cells (byteCells l) 5)) (.slice (some ⟨w.heap.size, 0, none⟩) l.length l.length) l := by
  have hh := has_new w (byteCells l) 5 w.heap.size rfl
  refine ⟨w.heap.size, rfl, hN, by simp, ?_, fun j => hh.cell j⟩
  unfold World.shape?; rw [hh]; show some (5, (byteCells l).size) = _; rw [byteCells_size]
theorem LitAt.le {N : Nat} {w w' : World} {v : Value} {l : List UInt8} (h : LitAt N w v l) (k : Le N w w') : LitAt N w' v l := by
  obtain ⟨g, hv, h1, h2, h3, h4⟩ := h
  exact ⟨g, hv, h1, Nat.lt_of_lt_of_le h2 k.size, (k.shape g h2).trans h3, fun j => (k.cells ⟨g, j, none⟩ h2).trans (h4 j)⟩
theorem LitAt.bytes {N : Nat} {w w' : World} {g : Nat} {l : List UInt8} (hc : ∀ j, w.cell? ⟨g, j, none⟩ = (byteCells l)[j]?) (hg : g < w.heap.size) (k : Le N w w') : Bytes w' (.slice (some ⟨g, 0, none⟩) l.length l.length) l :=
  ⟨_, _, g, 0, rfl, Nat.le_refl _, fun _ => rfl, fun j hj => by rw [k.cells ⟨g, 0 + j, none⟩ hg, Nat.zero_add, hc j]; exact byteCells_at l j hj, Nat.lt_of_lt_of_le hg k.size⟩
theorem Bytes.le {N : Nat} {w w' : World} {v : Value} {d : List UInt8} (h : Bytes w v d) (k : Le N w w') : Bytes w' v d := by
  obtain ⟨a, cap, db, o, h1, h2, h3, h4, h5⟩ := h
  exact ⟨a, cap, db, o, h1, h2, h3, fun j hj => (k.cells ⟨db, o + j, none⟩ h5).trans (h4 j hj), Nat.lt_of_lt_of_le h5 k.size⟩
theorem Parts.le {N : Nat} {w w' : World} {v : Value} {ds : List (List UInt8)} (h : Parts w v ds) (k : Le N w w') : Parts w' v ds := by
  obtain ⟨a, cap, pb, po, h1, h2, h3, h4, h5⟩ := h
  refine ⟨a, cap, pb, po, h1, h2, fun i hi => ?_, Nat.lt_of_lt_of_le h4 k.size, h5⟩
  obtain ⟨sv, hs, hb⟩ := h3 i hi
  exact ⟨sv, (k.cells ⟨pb, po + i, none⟩ h4).trans hs, hb.le k⟩
theorem Glob.le {N : Nat} {w w' : World} (h : Glob w) (k : Le N w w') (hN : 2 ≤ N) : Glob w' := h.below k.below hN
theorem bytes_nil (w : World) (h : 0 < w.heap.size) : Bytes w (.slice none 0 0) [] := ⟨none, 0, 0, 0, rfl, Nat.le_refl _, fun h => absurd rfl h, fun j hj => absurd hj (by simp), h⟩
theorem parts3 (w : World) (v1 v2 : Value) {x y : List UInt8} (h1 : Bytes w v1 x) (h2 : Bytes w v2 y) (hs : x.length + y.length < 10000000000 := by simp) : Parts (w.alloc (.cells #[v1, .slice none 0 0, v2] 22)) (.slice (some ⟨w.heap.size, 0, none⟩) 3 3) [x, [], y] := by
  have hh := has_new w #[v1, .slice none 0 0, v2] 22 w.heap.size rfl
  have hB : Below w.heap.size w (w.alloc (.cells #[v1, .slice none 0 0, v2] 22)) := (Below.refl _ _).alloc (Nat.le_refl _) _
  refine ⟨_, 3, w.heap.size, 0, rfl, fun _ => rfl, fun i hi => ?_, by simp, by simpa using hs, by simp⟩
  obtain rfl | rfl | rfl : i = 0 ∨ i = 1 ∨ i = 2 := by simp at hi; omega
  · exact ⟨v1, hh.cell 0, h1.below hB⟩
  · exact ⟨_, hh.cell 1, bytes_nil _ (by simp)⟩
  · exact ⟨v2, hh.cell 2, h2.below hB⟩
theorem convert_lit (w : World) (g n c m : Nat) (hsh : w.shape? g = some (5, m)) :
    (convert 22 22 (.slice (some ⟨g, 0, none⟩) n c)).run Tryd.prog w = .ok (.slice (some ⟨g, 0, none⟩) n c) (w.freeze ⟨g, m, none⟩ 1) := by
  simp [convert, run_underlying Tryd.underlying22, run_underlying Tryd.underlying5, markStringish, hsh]
theorem load_dig (w : World) (R : Nat) (d : List UInt8) (hd : d.length = 32) (h : ∀ j, j < 32 → w.cell? ⟨R, j, none⟩ = (byteCells d)[j]?) :
    (Instr.loadAt 25 (.pointer (some ⟨R, 0, none⟩))).run Tryd.prog w = .ok (.agg (byteCells d)) w := by
  have := run_loadAt_mid (P := Tryd.prog) w R 0 25 (byteCells d).toList _ (fun j v hv => by
    have hj : j < 32 := by have := (List.getElem?_eq_some_iff.1 hv).1; simpa [byteCells_size, hd] using this
    rw [Nat.zero_add, h j hj, ← hv]; simp) Tryd.underlying25 rfl (by rw [Array.length_toList, byteCells_size, hd]; kernel_rfl)
  simpa using this

def worksΦ (N : Nat) (T : ByteArray) : Nat → Value → World → Prop
  | 0, v, _ => v = .string T
  | 1, v, _ => v = .int .i64 64
  | 2, v, _ => v = .bool true
  | 3, v, _ => v = .bool true
  | 4, v, _ => v = .string T
  | 5, v, _ => v = .string ⟨#[98, 97, 55, 56, 49, 54, 98, 102]⟩
  | 6, v, _ => v = .bool true
  | 7, v, _ => v = .bool true
  | 8, v, _ => v = .bool true
  | 9, v, _ => v = .int .i64 0
  | 10, v, _ => v = .int .i64 0
  | 11, v, _ => v = .bool true
  | 12, v, _ => v = .bool true
  | 13, v, _ => v = .bool true
  | 14, v, _ => v = .agg (byteCells abcD)
  | 15, v, w => LitAt N w v [97]
  | 16, v, w => Bytes w v [97]
  | 17, v, w => LitAt N w v [98, 99]
  | 18, v, w => Bytes w v [98, 99]
  | 19, v, w => Parts w v [[97], [], [98, 99]]
  | 20, v, _ => v = .agg (byteCells abcD)
  | 21, v, _ => v = .bool true
  | 22, v, _ => v = .bool true
  | 23, v, _ => v = .bool true
  | 24, v, _ => v = .int .i64 110
  | 25, v, _ => v = .int .i64 110
  | 26, v, _ => v = .bool true
  | 27, v, _ => v = .bool true
  | 28, v, _ => v = .bool true
  | _, _, _ => False

set_option maxRecDepth 100000 in
set_option maxHeartbeats 1000000 in
theorem works_any (w : World) (hg : Glob w) : Calls Tryd.prog 15 #[] w fun e w' => e = .returned (.bool true) ∧ Below w.heap.size w w' := by
  have hgs := hg.size
  have kc := fun (w : World) (C : Array Value) (n c : Nat) => Lib.run_convert_bytes_const (P := Tryd.prog) w 22 5 C n c Tryd.underlying22 Tryd.underlying5
  go_enter Tryd.func15, Tryd.ntmps15
  go_wp2_with fail
  refine named (p := fun X => Calls _ _ _ X _) ?_
  intro W0 hW0
  have hB0 : Below w.heap.size w W0 := by rw [hW0]; exact (Below.refl _ _).alloc (Nat.le_refl _) _
  have hv0 : Bytes W0 (.slice (some ⟨w.heap.size, 0, none⟩) 3 3) [97, 98, 99] := by rw [hW0]; exact bytes_mark w [97, 98, 99] 5 3 (3, 4) rfl
  clear hW0
  refine (sum1_any _ _ W0 hv0 (hg.below hB0 hgs) (by simp)).mono ?_
  rintro e W1 ⟨rfl, hB1⟩
  rw [abc_sha]
  go_wp2_with fail
  refine (text_any abcD rfl W1).mono ?_
  rintro e W2 ⟨rfl, hB2⟩
  rw [abc_text]
  have hBa : Below w.heap.size w W2 := (hB0.trans (hB1.mono hB0.size)).trans (hB2.mono (Nat.le_trans hB0.size hB1.size))
  clear hB0 hB1 hB2 hv0
  go_wp2_with fail
  refine (parse_any abcT W2).mono ?_
  rintro e W3 ⟨rfl, hB3⟩
  rw [abc_parse.1, abc_parse.2]
  have hBb : Below w.heap.size w W3 := hBa.trans (hB3.mono hBa.size)
  clear hBa hB3
  have hb32 : (byteCells abcD).size = 32 := by rw [byteCells_size]; rfl
  have hn3 := has_new W3 (zeroCells 32) 25 W3.heap.size rfl
  obtain ⟨T, hT⟩ : ∃ T : ByteArray, T = ⟨abcT.toArray⟩ := ⟨_, rfl⟩
  have t1 : T.size = 64 := by rw [hT]; rfl
  have t2 : T.extract 0 8 = ⟨#[98, 97, 55, 56, 49, 54, 98, 102]⟩ := by rw [hT]; kernel_rfl
  rw [← hT]
  clear hT
  go_wp2_with (refine wpList_store_row rfl 25 _ _ rfl W3.heap.size (byteCells abcD) rfl rfl 25 _ hn3 (by rw [hb32]; kernel_rfl) (by rw [hb32, zeroCells_size]) (byteCells_one _) ?_)
  refine named (p := fun X => Calls _ _ _ X _) ?_
  intro W4 hW4
  have hB4 : Below W3.heap.size W3 W4 := by rw [hW4]; exact ((Below.refl _ _).alloc (Nat.le_refl _) _).trans ⟨rfl, rfl, rfl, by simp, fun j hj => setRow_other _ _ _ _ (by omega)⟩
  have hr4 : Has W4 W3.heap.size (byteCells abcD) 25 := by rw [hW4]; exact setRow_heap _ _ _ _ _ _ hn3
  clear hW4 hn3
  refine (parse_any [66, 65] W4).mono ?_
  rintro e W5 ⟨rfl, hB5⟩
  rw [ba_parse.1, ba_parse.2, byteCells_zero]
  have hr5 := hr4.below hB5 hr4.lt
  have hBc : Below w.heap.size w W5 := (hBb.trans (hB4.mono hBb.size)).trans (hB5.mono (Nat.le_trans hBb.size hB4.size))
  have hlt3 : w.heap.size ≤ W3.heap.size := hBb.size
  generalize W3.heap.size = R at *
  clear hB4 hB5 hr4 hBb
  have hn5 := has_new W5 (zeroCells 32) 25 W5.heap.size rfl
  go_wp2_with (refine wpList_store_row rfl 25 _ _ rfl W5.heap.size (zeroCells 32) rfl rfl 25 _ hn5 (by kernel_rfl) rfl (by kernel_rfl) ?_)
  refine named (p := Code.wp _ _ _ _) ?_
  intro W6 hW6
  have hB6 : Below W5.heap.size W5 W6 := by rw [hW6]; exact ((Below.refl _ _).alloc (Nat.le_refl _) _).trans ⟨rfl, rfl, rfl, by simp, fun j hj => setRow_other _ _ _ _ (by omega)⟩
  have hr6 := hr5.below hB6 hr5.lt
  have hBd : Below w.heap.size w W6 := hBc.trans (hB6.mono hBc.size)
  clear hW6 hn5 hr5 hBc hB6
  have hrg : W6.rangeAt R 0 (byteCells abcD).toList := fun j v hv => by
    rw [hr6.cell, Nat.zero_add, ← hv]; simp
  obtain ⟨N, hNe⟩ : ∃ N, N = W6.heap.size := ⟨_, rfl⟩
  have hN : N ≤ W6.heap.size := by omega
  have hg6 := hg.below hBd hgs
  have hN2 : 2 ≤ N := by rw [hNe]; exact hg6.size
  clear hrg
  refine wp_region_owes (A := [0, 1, 3, 7, 15, 31, 63, 127, 255, 511, 1023, 2047, 4095, 8191, 16383, 16383, 49151, 16383, 147455, 507903, 1032191, 2097151, 4194303, 8388607, 16777215, 33554431, 67108863, 134217727, 268435455]) (need := [[(1, none)], [(19, some 0)], [(20, some 1)], [(21, some 2)], [(1, none), (22, some 3)], [(23, some 4), (22, some 3)], [(24, some 5), (22, some 3)], [(22, some 3), (25, some 6)], [(26, some 7)], [(3, none), (27, some 8)], [(28, some 9), (27, some 8)], [(29, some 10), (27, some 8)], [(27, some 8), (30, some 11)], [(31, some 12)], [(2, none), (32, some 13)], [(32, some 13)], [(34, some 15), (32, some 13)], [(32, some 13)], [(36, some 17), (32, some 13)], [(35, some 16), (37, some 18), (32, some 13)], [(38, some 19), (32, some 13)], [(33, some 14), (39, some 20), (32, some 13)], [(32, some 13), (40, some 21)], [(41, some 22)], [(5, none), (42, some 23)], [(43, some 24), (42, some 23)], [(44, some 25), (42, some 23)], [(42, some 23), (45, some 26)], [(46, some 27)]]) (worksΦ N T) N 47 (by kernel_rfl) (by kernel_rfl) (by kernel_rfl) (by kernel_rfl) (by kernel_rfl) (by kernel_rfl) rfl ?stable ?hop ?hend
  case stable =>
    intro i v x y hle h
    unfold worksΦ at h ⊢
    split at h <;> first | exact h | exact LitAt.le h hle | exact Bytes.le h hle | exact Parts.le h hle
  case hop =>
    refine ⟨?_, ?_, ?_, ?_, ?_, ?_, ?_, ?_, ?_, ?_, ?_, ?_, ?_, ?_, ?_, ?_, ?_, ?_, ?_, ?_, ?_, ?_, ?_, ?_, ?_, ?_, ?_, ?_, ?_, trivial⟩
    · intro a w hle hE
      have h1 : a.tmps.getD 1 undef = .string T := hE (1, none) (by simp)
      rw [if_pos (wanted_plain rfl)]
      refine owe_value (v := .string T) ?_ (Le.refl _ _) rfl; go_simp
    · intro a w hle hE
      have h19 : a.tmps.getD 19 undef = .string T := hE (19, some 0) (by simp)
      rw [if_pos (wanted_plain rfl)]
      refine owe_value (v := .int .i64 64) ?_ (Le.refl _ _) rfl; go_simp
    · intro a w hle hE
      have h20 : a.tmps.getD 20 undef = .int .i64 64 := hE (20, some 1) (by simp)
      rw [if_pos (wanted_plain rfl)]
      refine owe_value (v := .bool true) ?_ (Le.refl _ _) rfl; go_simp
    · intro a w hle hE
      have h21 : a.tmps.getD 21 undef = .bool true := hE (21, some 2) (by simp)
      rw [if_pos (wanted_plain rfl)]
      refine owe_value (v := .bool true) ?_ (Le.refl _ _) rfl; go_simp
    · intro a w hle hE
      have h1 : a.tmps.getD 1 undef = .string T := hE (1, none) (by simp)
      have h22 : a.tmps.getD 22 undef = .bool true := hE (22, some 3) (by simp)
      rw [if_pos (wanted_of (j := 3) (b := true) (d := 22) rfl rfl h22)]
      refine owe_value (v := .string T) ?_ (Le.refl _ _) rfl; go_simp
    · intro a w hle hE
      have h23 : a.tmps.getD 23 undef = .string T := hE (23, some 4) (by simp)
      have h22 : a.tmps.getD 22 undef = .bool true := hE (22, some 3) (by simp)
      rw [if_pos (wanted_of (j := 3) (b := true) (d := 22) rfl rfl h22)]
      refine owe_value (v := .string ⟨#[98, 97, 55, 56, 49, 54, 98, 102]⟩) ?_ (Le.refl _ _) rfl; go_simp
    · intro a w hle hE
      have h24 : a.tmps.getD 24 undef = .string ⟨#[98, 97, 55, 56, 49, 54, 98, 102]⟩ := hE (24, some 5) (by simp)
      have h22 : a.tmps.getD 22 undef = .bool true := hE (22, some 3) (by simp)
      rw [if_pos (wanted_of (j := 3) (b := true) (d := 22) rfl rfl h22)]
      refine owe_value (v := .bool true) ?_ (Le.refl _ _) rfl; go_simp
    · intro a w hle hE
      have h22 : a.tmps.getD 22 undef = .bool true := hE (22, some 3) (by simp)
      have h25 : a.tmps.getD 25 undef = .bool true := hE (25, some 6) (by simp)
      rw [if_pos (wanted_plain rfl)]
      refine owe_value (v := .bool true) ?_ (Le.refl _ _) rfl; go_simp
    · intro a w hle hE
      have h26 : a.tmps.getD 26 undef = .bool true := hE (26, some 7) (by simp)
      rw [if_pos (wanted_plain rfl)]
      refine owe_value (v := .bool true) ?_ (Le.refl _ _) rfl; go_simp
    · intro a w hle hE
      have h3 : a.tmps.getD 3 undef = .int .i64 0 := hE (3, none) (by simp)
      have h27 : a.tmps.getD 27 undef = .bool true := hE (27, some 8) (by simp)
      rw [if_pos (wanted_of (j := 8) (b := true) (d := 27) rfl rfl h27)]
      refine owe_value (v := .int .i64 0) ?_ (Le.refl _ _) rfl; go_simp
    · intro a w hle hE
      have h28 : a.tmps.getD 28 undef = .int .i64 0 := hE (28, some 9) (by simp)
      have h27 : a.tmps.getD 27 undef = .bool true := hE (27, some 8) (by simp)
      rw [if_pos (wanted_of (j := 8) (b := true) (d := 27) rfl rfl h27)]
      refine owe_call (f := 23) (args := #[.int .i64 0]) (by go_simp) ?_
      refine (num_any _ _).mono ?_
      rintro e w1 ⟨rfl, rfl⟩
      exact ⟨_, rfl, Le.refl _ _, rfl⟩
    · intro a w hle hE
      have h29 : a.tmps.getD 29 undef = .int .i64 0 := hE (29, some 10) (by simp)
      have h27 : a.tmps.getD 27 undef = .bool true := hE (27, some 8) (by simp)
      rw [if_pos (wanted_of (j := 8) (b := true) (d := 27) rfl rfl h27)]
      refine owe_value (v := .bool true) ?_ (Le.refl _ _) rfl; go_simp
    · intro a w hle hE
      have h27 : a.tmps.getD 27 undef = .bool true := hE (27, some 8) (by simp)
      have h30 : a.tmps.getD 30 undef = .bool true := hE (30, some 11) (by simp)
      rw [if_pos (wanted_plain rfl)]
      refine owe_value (v := .bool true) ?_ (Le.refl _ _) rfl; go_simp
    · intro a w hle hE
      have h31 : a.tmps.getD 31 undef = .bool true := hE (31, some 12) (by simp)
      rw [if_pos (wanted_plain rfl)]
      refine owe_value (v := .bool true) ?_ (Le.refl _ _) rfl; go_simp
    · intro a w hle hE
      have h2 : a.tmps.getD 2 undef = .pointer (some ⟨R, 0, none⟩) := hE (2, none) (by simp)
      have h32 : a.tmps.getD 32 undef = .bool true := hE (32, some 13) (by simp)
      rw [if_pos (wanted_of (j := 13) (b := true) (d := 32) rfl rfl h32)]
      have hR : ∀ j, j < 32 → w.cell? ⟨R, j, none⟩ = (byteCells abcD)[j]? := fun j _ => (hle.cells ⟨R, j, none⟩ hr6.lt).trans (hr6.cell j)
      refine owe_value (v := .agg (byteCells abcD)) ?_ (Le.refl _ _) rfl
      have e2 : a.eval (.tmp 2) = .pointer (some ⟨R, 0, none⟩) := h2
      unfold execOp
      simp only [e2, load_dig w R abcD rfl hR, Sem.run_bind, Sem.run_pure, Result.andThen_ok]
    · intro a w hle hE
      have h32 : a.tmps.getD 32 undef = .bool true := hE (32, some 13) (by simp)
      rw [if_pos (wanted_of (j := 13) (b := true) (d := 32) rfl rfl h32)]
      refine owe_value (v := .slice (some ⟨w.heap.size, 0, none⟩) 1 1) (w' := w.alloc (.cells #[.int .u8 97] 5)) (by go_simp) (Le.alloc _ _ (Nat.le_trans hN hle.size)) (LitAt.new w [97] (Nat.le_trans hN hle.size))
    · intro a w hle hE
      have h34 : LitAt N w (a.tmps.getD 34 undef) [97] := hE (34, some 15) (by simp)
      have h32 : a.tmps.getD 32 undef = .bool true := hE (32, some 13) (by simp)
      rw [if_pos (wanted_of (j := 13) (b := true) (d := 32) rfl rfl h32)]
      obtain ⟨g, hv, hg1, hg2, hsh, hcl⟩ := h34
      have e1 : a.eval (.tmp 34) = _ := hv
      refine owe_value (v := .slice (some ⟨g, 0, none⟩) 1 1) (w' := w.freeze ⟨g, 1, none⟩ 1) ?_ (Le.freeze _ _ _ hg1) ?_
      · unfold execOp
        simp only [e1, Sem.run_bind]
        rw [convert_lit w g _ _ _ hsh]
        rfl
      · exact LitAt.bytes hcl hg2 (Le.freeze w ⟨g, 1, none⟩ 1 hg1)
    · intro a w hle hE
      have h32 : a.tmps.getD 32 undef = .bool true := hE (32, some 13) (by simp)
      rw [if_pos (wanted_of (j := 13) (b := true) (d := 32) rfl rfl h32)]
      refine owe_value (v := .slice (some ⟨w.heap.size, 0, none⟩) 2 2) (w' := w.alloc (.cells #[.int .u8 98, .int .u8 99] 5)) (by go_simp) (Le.alloc _ _ (Nat.le_trans hN hle.size)) (LitAt.new w [98, 99] (Nat.le_trans hN hle.size))
    · intro a w hle hE
      have h36 : LitAt N w (a.tmps.getD 36 undef) [98, 99] := hE (36, some 17) (by simp)
      have h32 : a.tmps.getD 32 undef = .bool true := hE (32, some 13) (by simp)
      rw [if_pos (wanted_of (j := 13) (b := true) (d := 32) rfl rfl h32)]
      obtain ⟨g, hv, hg1, hg2, hsh, hcl⟩ := h36
      have e1 : a.eval (.tmp 36) = _ := hv
      refine owe_value (v := .slice (some ⟨g, 0, none⟩) 2 2) (w' := w.freeze ⟨g, 2, none⟩ 1) ?_ (Le.freeze _ _ _ hg1) ?_
      · unfold execOp
        simp only [e1, Sem.run_bind]
        rw [convert_lit w g _ _ _ hsh]
        rfl
      · exact LitAt.bytes hcl hg2 (Le.freeze w ⟨g, 2, none⟩ 1 hg1)
    · intro a w hle hE
      have h35 : Bytes w (a.tmps.getD 35 undef) [97] := hE (35, some 16) (by simp)
      have h37 : Bytes w (a.tmps.getD 37 undef) [98, 99] := hE (37, some 18) (by simp)
      have h32 : a.tmps.getD 32 undef = .bool true := hE (32, some 13) (by simp)
      rw [if_pos (wanted_of (j := 13) (b := true) (d := 32) rfl rfl h32)]
      obtain ⟨a1, c1, d1, o1, v1, r1⟩ := id h35
      obtain ⟨a2, c2, d2, o2, v2, r2⟩ := id h37
      have v1' : a.tmps.getD 35 undef = .slice a1 1 c1 := v1
      have v2' : a.tmps.getD 37 undef = .slice a2 2 c2 := v2
      rw [v1] at h35
      rw [v2] at h37
      have e1 : a.eval (.tmp 35) = .slice a1 1 c1 := v1'
      have e2 : a.eval (.tmp 37) = .slice a2 2 c2 := v2'
      refine owe_value (v := .slice (some ⟨w.heap.size, 0, none⟩) 3 3) (w' := w.alloc (.cells #[.slice a1 1 c1, .slice none 0 0, .slice a2 2 c2] 22)) (by clear h35 h37 r1 r2 v1 v2; simp only [execOp, List.map_toArray, List.map_cons, List.map_nil, e1, e2]; go_simp) (Le.alloc _ _ (Nat.le_trans hN hle.size)) (parts3 w _ _ h35 h37)
    · intro a w hle hE
      have h38 : Parts w (a.tmps.getD 38 undef) [[97], [], [98, 99]] := hE (38, some 19) (by simp)
      have h32 : a.tmps.getD 32 undef = .bool true := hE (32, some 13) (by simp)
      rw [if_pos (wanted_of (j := 13) (b := true) (d := 32) rfl rfl h32)]
      obtain ⟨a1, c1, p1, o1, v1, r1⟩ := id h38
      have v1' : a.tmps.getD 38 undef = .slice a1 3 c1 := v1
      rw [v1] at h38
      refine owe_call (f := 18) (args := #[.slice a1 3 c1]) (by clear h38 r1 v1; go_simp) ?_
      refine (of_any _ _ w h38 (hg6.le hle hN2)).mono ?_
      rintro e w1 ⟨rfl, hb⟩
      exact ⟨_, rfl, Le.of hb (Nat.le_trans hN hle.size), by show Value.agg (byteCells (shaL [97, 98, 99])) = _; rw [abc_sha]⟩
    · intro a w hle hE
      have h33 : a.tmps.getD 33 undef = .agg (byteCells abcD) := hE (33, some 14) (by simp)
      have h39 : a.tmps.getD 39 undef = .agg (byteCells abcD) := hE (39, some 20) (by simp)
      have h32 : a.tmps.getD 32 undef = .bool true := hE (32, some 13) (by simp)
      rw [if_pos (wanted_of (j := 13) (b := true) (d := 32) rfl rfl h32)]
      have hq := eq_dig abcD abcD rfl rfl w
      rw [beq_self_eq_true] at hq
      refine owe_value (v := .bool true) ?_ (Le.refl _ _) rfl
      go_simp
    · intro a w hle hE
      have h32 : a.tmps.getD 32 undef = .bool true := hE (32, some 13) (by simp)
      have h40 : a.tmps.getD 40 undef = .bool true := hE (40, some 21) (by simp)
      rw [if_pos (wanted_plain rfl)]
      refine owe_value (v := .bool true) ?_ (Le.refl _ _) rfl; go_simp
    · intro a w hle hE
      have h41 : a.tmps.getD 41 undef = .bool true := hE (41, some 22) (by simp)
      rw [if_pos (wanted_plain rfl)]
      refine owe_value (v := .bool true) ?_ (Le.refl _ _) rfl; go_simp
    · intro a w hle hE
      have h5 : a.tmps.getD 5 undef = .int .i64 110 := hE (5, none) (by simp)
      have h42 : a.tmps.getD 42 undef = .bool true := hE (42, some 23) (by simp)
      rw [if_pos (wanted_of (j := 23) (b := true) (d := 42) rfl rfl h42)]
      refine owe_value (v := .int .i64 110) ?_ (Le.refl _ _) rfl; go_simp
    · intro a w hle hE
      have h43 : a.tmps.getD 43 undef = .int .i64 110 := hE (43, some 24) (by simp)
      have h42 : a.tmps.getD 42 undef = .bool true := hE (42, some 23) (by simp)
      rw [if_pos (wanted_of (j := 23) (b := true) (d := 42) rfl rfl h42)]
      refine owe_call (f := 23) (args := #[.int .i64 110]) (by go_simp) ?_
      refine (num_any _ _).mono ?_
      rintro e w1 ⟨rfl, rfl⟩
      exact ⟨_, rfl, Le.refl _ _, rfl⟩
    · intro a w hle hE
      have h44 : a.tmps.getD 44 undef = .int .i64 110 := hE (44, some 25) (by simp)
      have h42 : a.tmps.getD 42 undef = .bool true := hE (42, some 23) (by simp)
      rw [if_pos (wanted_of (j := 23) (b := true) (d := 42) rfl rfl h42)]
      refine owe_value (v := .bool true) ?_ (Le.refl _ _) rfl; go_simp
    · intro a w hle hE
      have h42 : a.tmps.getD 42 undef = .bool true := hE (42, some 23) (by simp)
      have h45 : a.tmps.getD 45 undef = .bool true := hE (45, some 26) (by simp)
      rw [if_pos (wanted_plain rfl)]
      refine owe_value (v := .bool true) ?_ (Le.refl _ _) rfl; go_simp
    · intro a w hle hE
      have h46 : a.tmps.getD 46 undef = .bool true := hE (46, some 27) (by simp)
      rw [if_pos (wanted_plain rfl)]
      refine owe_value (v := .bool true) ?_ (Le.refl _ _) rfl; go_simp
  case hend =>
    intro a w' hle hdef hsz hall hold
    have h0 : a.tmps.getD 0 undef = .bool true := hall 28 _ 0 rfl rfl
    go_wp2_with fail
    refine bodyPost_ret (results_tmp rfl _ _ _) hdef ?_
    exact ⟨by rw [h0], hBd.trans (hle.below.mono (by rw [hNe]; exact hBd.size))⟩
end Go.Proofs.YtkcngkkjlnadiaaDoor
