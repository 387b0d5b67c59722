/- The law ShaKnown. -/
import Derived.Test.YtkcngkkjlnadiaaDoorI1
import Derived.Test.YtkcngkkjlnadiaaDoorC1
namespace Go.Proofs.YtkcngkkjlnadiaaDoor
open Go.RowKit

def nilD : List UInt8 := [227, 176, 196, 66, 152, 252, 28, 20, 154, 251, 244, 200, 153, 111, 185, 36, 39, 174, 65, 228, 100, 155, 147, 76, 164, 149, 153, 27, 120, 82, 184, 85]
def nilT : List UInt8 := [101, 51, 98, 48, 99, 52, 52, 50, 57, 56, 102, 99, 49, 99, 49, 52, 57, 97, 102, 98, 102, 52, 99, 56, 57, 57, 54, 102, 98, 57, 50, 52, 50, 55, 97, 101, 52, 49, 101, 52, 54, 52, 57, 98, 57, 51, 52, 99, 97, 52, 57, 53, 57, 57, 49, 98, 55, 56, 53, 50, 98, 56, 53, 53]
theorem nil_sha : shaL [] = nilD := by decide +kernel
theorem nil_text : textL nilD = nilT := by decide +kernel
theorem nil_cmp : cmpL (List.replicate 32 0) nilD = -1 := by decide +kernel

set_option maxRecDepth 10000 in
set_option maxHeartbeats 1000000 in
theorem known_walk (w : World) (hg0 : Glob w) :
    Calls Tryd.prog 10 #[] w fun e w' => e = .returned (.bool true) ∧ Below w.heap.size w w' := by
  have hgs := hg0.size
  have kc := fun (w : World) (C : Array Value) (n c : Nat) => Lib.run_convert_bytes_const (P := Tryd.prog) w 22 5 C n c Tryd.underlying22 Tryd.underlying5
  have hbn : ∀ W, Below w.heap.size w W → Bytes W (.slice none 0 0) [] := fun W h => bytes_nil W (by have := h.size; omega)
  have hsum : ∀ W, Below w.heap.size w W → Calls Tryd.prog 16 #[.slice none 0 0] W fun e w' => e = .returned (.agg (byteCells nilD)) ∧ Below W.heap.size W w' := fun W h => by
    have := sum1_any _ [] W (hbn W h) (hg0.below h hgs) (by simp); rwa [nil_sha] at this
  have href : ∀ W, Below w.heap.size w W → Calls Tryd.prog 17 #[.slice none 0 0] W fun e w' => e = .returned (.agg (byteCells nilD)) ∧ Below W.heap.size W w' := fun W h => by
    have := refsum_any _ [] W (hbn W h) (by simp); rwa [nil_sha] at this
  go_enter Tryd.func10, Tryd.ntmps10
  go_wp2_with fail
  refine (hsum w (Below.refl _ _)).mono ?_
  rintro e W1 ⟨rfl, hB1⟩
  go_wp2_with fail
  refine (text_any nilD rfl W1).mono ?_
  rintro e W2 ⟨rfl, hB2⟩
  rw [nil_text]
  have hBa : Below w.heap.size w W2 := hB1.trans (hB2.mono hB1.size)
  clear hB1 hB2
  go_wp2_with fail
  refine named (p := fun X => Calls _ _ _ X _) ?_
  intro W3 hW3
  have hB3 : Below W2.heap.size W2 W3 := by rw [hW3]; exact (Below.refl _ _).alloc (Nat.le_refl _) _
  have hv3 : Bytes W3 (.slice (some ⟨W2.heap.size, 0, none⟩) 3 3) [97, 98, 99] := by rw [hW3]; exact bytes_mark W2 [97, 98, 99] 5 3 (3, 4) rfl
  have hBb : Below w.heap.size w W3 := hBa.trans (hB3.mono hBa.size)
  clear hW3 hBa hB3
  refine (sum1_any _ _ W3 hv3 (hg0.below hBb hgs) (by simp)).mono ?_
  rw [abc_sha]
  rintro e W4 ⟨rfl, hB4⟩
  have hBc : Below w.heap.size w W4 := hBb.trans (hB4.mono hBb.size)
  clear hBb hB4 hv3
  go_wp2_with fail
  refine (text_any abcD rfl W4).mono ?_
  rw [abc_text]
  rintro e W5 ⟨rfl, hB5⟩
  have hBd : Below w.heap.size w W5 := hBc.trans (hB5.mono hBc.size)
  clear hBc hB5
  obtain ⟨T, hT⟩ : ∃ T : ByteArray, T = ⟨abcT.toArray⟩ := ⟨_, rfl⟩
  have t1 : T.size = 64 := by rw [hT]; rfl
  have t2 : T.extract 56 64 = ⟨#[102, 50, 48, 48, 49, 53, 97, 100]⟩ := by rw [hT]; kernel_rfl
  rw [← hT]
  clear hT
  obtain ⟨U, hU⟩ : ∃ U : ByteArray, U = ⟨nilT.toArray⟩ := ⟨_, rfl⟩
  have u1 : U.size = 64 := by rw [hU]; rfl
  have u2 : U.extract 0 16 = ⟨#[101, 51, 98, 48, 99, 52, 52, 50, 57, 56, 102, 99, 49, 99, 49, 52]⟩ := by rw [hU]; kernel_rfl
  rw [← hU]
  clear hU
  have q := eq_same nilD rfl
  have hb32 : (byteCells nilD).size = 32 := rfl
  go_wp2_with fail
  refine (hsum W5 hBd).mono ?_
  rintro e W6 ⟨rfl, hB6⟩
  have hBe : Below w.heap.size w W6 := hBd.trans (hB6.mono hBd.size)
  clear hBd hB6
  go_wp2_with fail
  refine (href W6 hBe).mono ?_
  rintro e W7 ⟨rfl, hB7⟩
  have hBf : Below w.heap.size w W7 := hBe.trans (hB7.mono hBe.size)
  clear hBe hB7
  go_wp2_with fail
  refine (new_any W7 (hg0.below hBf hgs)).mono ?_
  rintro e W8 ⟨rfl, hB8, hH8⟩
  have hBg : Below w.heap.size w W8 := hBf.trans (hB8.mono hBf.size)
  clear hBf hB8
  go_wp2_with fail
  refine (sum_any _ [] W8 hH8 (hg0.below hBg hgs) (by simp)).mono ?_
  rw [nil_sha]
  rintro e W9 ⟨rfl, hB9⟩
  have hBh : Below w.heap.size w W9 := hBg.trans (hB9.mono hBg.size)
  clear hBg hB9 hH8
  go_wp2_with fail
  refine (href W9 hBh).mono ?_
  rintro e Wa ⟨rfl, hBa'⟩
  have hBi : Below w.heap.size w Wa := hBh.trans (hBa'.mono hBh.size)
  clear hBh hBa'
  go_wp2_with fail
  refine (hsum Wa hBi).mono ?_
  rintro e Wb ⟨rfl, hBb'⟩
  have hBj : Below w.heap.size w Wb := hBi.trans (hBb'.mono hBi.size)
  clear hBi hBb'
  go_wp2_with fail
  have hcm := compare_any (List.replicate 32 0) nilD rfl rfl Wb
  rw [nil_cmp] at hcm
  refine Calls.mono (show Calls Tryd.prog 24 #[.agg (byteCells (List.replicate 32 0)), .agg (byteCells nilD)] Wb _ from hcm) ?_
  rintro e Wc ⟨rfl, hBc'⟩
  have hBk : Below w.heap.size w Wc := hBj.trans (hBc'.mono hBj.size)
  clear hBj hBc' hcm
  go_wp2_with fail
  refine (works_any _ (hg0.below hBk hgs)).mono ?_
  rintro e Wd' ⟨rfl, hBd'⟩
  go_wp2_with fail
  go_ret
  exact ⟨rfl, hBk.trans (hBd'.mono hBk.size)⟩
end Go.Proofs.YtkcngkkjlnadiaaDoor
