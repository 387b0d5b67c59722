/- The document's Behind answers what the program's does. -/
import Derived.Test.YtodkehpldlmgaaaDoorZcT1A
import Derived.Test.YtodkehpldlmgaaaDoorZcT1B
import Derived.Test.YtodkehpldlmgaaaDoorZcT1C
import Derived.Test.YtodkehpldlmgaaaDoorZcT1D
import Derived.Test.YtodkehpldlmgaaaDoorZcT1E
import Derived.Test.YtodkehpldlmgaaaDoorZcT1F
import Derived.Test.YtodkehpldlmgaaaDoorZcT1G
import Derived.Test.YtodkehpldlmgaaaDoorZcT1H
import Derived.Test.YtodkehpldlmgaaaDoorZcT1I
namespace Go.Proofs.YtodkehpldlmgaaaDoor
open Go.RowKit

/-- What the document's Behind answers of what is come to. -/
def wayO : Except Wrong (Kn × Kn) → Array Value
  | .ok p => wayA p.1 p.2 0
  | .error x => wayA noK noK x.errno
theorem kn_bounds {k : Kn} (h : KnR k) {n : Nat} (hn : n < 10) {a : Bool} {l g : Nat} (e : k.r n = ⟨a, l, g⟩) : l ≤ g ∧ g < 4294967296 := by
  have h1 := h.le hn
  have h2 := (h n hn).2.great
  rw [e] at h1 h2
  exact ⟨h1, h2⟩
theorem no_of {k : Kn} (h : KnR k) {n : Nat} (hn : n < 10) {l g : Nat} (e : k.r n = ⟨false, l, g⟩) : needE k n = .error .unset := by
  refine needE_no ?_
  have h1 := (h n hn).1
  rw [e] at h1
  unfold rgB at h1
  simp only [Bool.false_or, Bool.and_eq_true, decide_eq_true_eq] at h1
  rw [e]; exact h1.2
theorem yes_of {k : Kn} {n l g : Nat} (e : k.r n = ⟨true, l, g⟩) : needE k n = .ok ⟨true, l, g⟩ := by
  have := needE_ok (k := k) (n := n) (by rw [e]; exact fun h => by cases h)
  rw [this, e]
theorem foldy_ok {k : Kn} {d : Nat} {o : Except Wrong Rg} {F : Rg → Rg → Except Wrong Rg} {r q m : Rg} (h1 : needE k d = .ok r) (h2 : o = .ok q) (h3 : F r q = .ok m) : foldE k d o F = .ok (k.set d m, noK) := by
  subst h2
  unfold foldE
  rw [h1]
  show bindE (F r q) _ = _
  rw [h3]; rfl
theorem foldy_n1 {k : Kn} {d : Nat} {o : Except Wrong Rg} {F : Rg → Rg → Except Wrong Rg} {x : Wrong} (h1 : needE k d = .error x) : foldE k d o F = .error x := by
  unfold foldE
  rw [h1]; rfl
theorem foldy_n2 {k : Kn} {d : Nat} {o : Except Wrong Rg} {F : Rg → Rg → Except Wrong Rg} {r : Rg} {x : Wrong} (h1 : needE k d = .ok r) (h2 : o = .error x) : foldE k d o F = .error x := by
  subst h2
  unfold foldE
  rw [h1]; rfl
theorem foldy_n3 {k : Kn} {d : Nat} {o : Except Wrong Rg} {F : Rg → Rg → Except Wrong Rg} {r q : Rg} {x : Wrong} (h1 : needE k d = .ok r) (h2 : o = .ok q) (h3 : F r q = .error x) : foldE k d o F = .error x := by
  subst h2
  unfold foldE
  rw [h1]
  show bindE (F r q) _ = _
  rw [h3]; rfl
theorem mk_at (n : Nat) (hn : 1 ≤ n ∧ n ≤ 15) (dl dg sl sg : Nat) (h1 : dl ≤ dg ∧ dg < 4294967296) (h2 : sl ≤ sg ∧ sg < 4294967296) (hp : n = 12 ∨ n = 13 → sl ≤ 31) (hq : n = 14 ∨ n = 15 → 1 ≤ sl) (M : Rg) (hM : makeR n ⟨true, dl, dg⟩ ⟨true, sl, sg⟩ = M) (X : World) :
    Calls Tryd.prog 37 #[.int .i64 (n : Int), spV dl dg, spV sl sg] X fun e w' => e = .returned (spV (M.least : Int) (M.great : Int)) ∧ Below X.heap.size X w' := by
  subst hM
  exact rmake_any n hn dl dg sl sg X ⟨h1.1, h1.2, h2.1, h2.2⟩ hp hq
theorem out_ok {i : Ins} {c : Int} {k j : Kn} {d : Nat} {M : Rg} (hm : MayI i) (hK : KnR k) (hd : d < 10) (h : outI i c k = .ok (k.set d M, j)) : M.least < 4294967296 ∧ M.great < 4294967296 := by
  have h1 := (outI_right hm hK h).1 d hd
  have e : (k.set d M).r d = M := if_pos rfl
  rw [e] at h1
  exact ⟨h1.2.least, h1.2.great⟩
theorem from_of {M : Rg} (h : M.set = true) : fromR M.least M.great = M := by
  obtain ⟨a, l, g⟩ := M
  obtain rfl : a = true := h
  rfl
theorem wide_set (l g : Nat) : (wideR l g).set = true := by
  unfold wideR
  split <;> rfl
theorem diff_set (d s : Rg) : (diffR d s).set = true := by
  unfold diffR
  split <;> rfl
theorem wm {m : Nat} (h : m < 4294967296) : Hid (IntKind.i64.wrap (m : Int) = (m : Int)) := by
  show _ = _
  rw [IntKind.wrap_i64]; omega
theorem w64 {a b : Int} (h1 : -1000000000000 ≤ a + b) (h2 : a + b ≤ 1000000000000) : wrap64 (a + b) = a + b := by simp only [wrap64]; omega
theorem fits_yes {r : Rg} {o c : Int} (h1 : ¬ (r.least : Int) + o < 0) (h2 : ¬ c ≤ (r.great : Int) + o) : fits r o c = true := by
  unfold fits
  rw [decide_eq_true (by omega), decide_eq_true (by omega)]; rfl
theorem fits_no1 {r : Rg} {o c : Int} (h1 : (r.least : Int) + o < 0) : fits r o c = false := by
  unfold fits
  rw [decide_eq_false (by omega)]; rfl
theorem fits_no2 {r : Rg} {o c : Int} (h2 : c ≤ (r.great : Int) + o) : fits r o c = false := by
  unfold fits
  rw [decide_eq_false (show ¬ (r.great : Int) + o < c by omega), Bool.and_false]
theorem rbc_1 {c off : Int} {imm : Nat} {k : Kn} {d s dl dg sl sg : Nat} {ds ss : Bool} (w : World) (hm : MayI ⟨1, (d : Int), (s : Int), off, imm⟩) (hK : KnR k) (B : Bd ⟨1, (d : Int), (s : Int), off, imm⟩ k d s dl dg sl sg ds ss) : BG ⟨1, (d : Int), (s : Int), off, imm⟩ c k w (wayO (outI ⟨1, (d : Int), (s : Int), off, imm⟩ c k)) := by
  have hu : True := (fun _ _ => trivial) hm hK
  clear hu
  have ho : outI ⟨1, (d : Int), (s : Int), off, imm⟩ c k = .ok (k.set d (⟨true, imm, imm⟩ : Rg), noK) := rfl
  obtain ⟨hl, hg⟩ := out_ok hm hK B.dn ho
  rw [ho]
  exact rbeh_ok_1 w rfl B imm rfl (wm hm.2) ((⟨true, imm, imm⟩ : Rg)).least ((⟨true, imm, imm⟩ : Rg)).great hl hg (mk_at 1 (by decide) dl dg imm imm (kn_bounds hK B.dn B.rd) ⟨Nat.le_refl _, hm.2⟩ (by omega) (by omega) (⟨true, imm, imm⟩ : Rg) rfl)
theorem rbc_2 {c off : Int} {imm : Nat} {k : Kn} {d s dl dg sl sg : Nat} {ds ss : Bool} (w : World) (hm : MayI ⟨2, (d : Int), (s : Int), off, imm⟩) (hK : KnR k) (B : Bd ⟨2, (d : Int), (s : Int), off, imm⟩ k d s dl dg sl sg ds ss) : BG ⟨2, (d : Int), (s : Int), off, imm⟩ c k w (wayO (outI ⟨2, (d : Int), (s : Int), off, imm⟩ c k)) := by
  have hu : True := (fun _ _ => trivial) hm hK
  clear hu
  cases ss with
  | false =>
    have ho : outI ⟨2, (d : Int), (s : Int), off, imm⟩ c k = .error .unset := by show bindE (needE k s) _ = _; rw [no_of hK B.sn B.rs]; rfl
    rw [ho]
    exact rbeh_us2 w rfl B rfl
  | true =>
    have ho : outI ⟨2, (d : Int), (s : Int), off, imm⟩ c k = .ok (k.set d (⟨true, sl, sg⟩ : Rg), noK) := by show bindE (needE k s) _ = _; rw [yes_of B.rs]; rfl
    obtain ⟨hl, hg⟩ := out_ok hm hK B.dn ho
    rw [ho]
    exact rbeh_ok_2 w rfl B rfl ((⟨true, sl, sg⟩ : Rg)).least ((⟨true, sl, sg⟩ : Rg)).great hl hg (mk_at 2 (by decide) dl dg sl sg (kn_bounds hK B.dn B.rd) (kn_bounds hK B.sn B.rs) (by omega) (by omega) (⟨true, sl, sg⟩ : Rg) rfl)
theorem rbc_3 {c off : Int} {imm : Nat} {k : Kn} {d s dl dg sl sg : Nat} {ds ss : Bool} (w : World) (hm : MayI ⟨3, (d : Int), (s : Int), off, imm⟩) (hK : KnR k) (B : Bd ⟨3, (d : Int), (s : Int), off, imm⟩ k d s dl dg sl sg ds ss) : BG ⟨3, (d : Int), (s : Int), off, imm⟩ c k w (wayO (outI ⟨3, (d : Int), (s : Int), off, imm⟩ c k)) := by
  have hu : True := (fun _ _ => trivial) hm hK
  clear hu
  cases ds with
  | false =>
    have ho : outI ⟨3, (d : Int), (s : Int), off, imm⟩ c k = .error .unset := foldy_n1 (no_of hK B.dn B.rd)
    rw [ho]
    exact rbeh_ud (n := 3) w (by decide) rfl B rfl
  | true =>
    have ho : outI ⟨3, (d : Int), (s : Int), off, imm⟩ c k = .ok (k.set d (sumR ⟨true, dl, dg⟩ (⟨true, imm, imm⟩ : Rg)), noK) := foldy_ok (yes_of B.rd) rfl rfl
    obtain ⟨hl, hg⟩ := out_ok hm hK B.dn ho
    have hM : fromR (sumR ⟨true, dl, dg⟩ (⟨true, imm, imm⟩ : Rg)).least (sumR ⟨true, dl, dg⟩ (⟨true, imm, imm⟩ : Rg)).great = (sumR ⟨true, dl, dg⟩ (⟨true, imm, imm⟩ : Rg)) := from_of (wide_set _ _)
    rw [← hM] at ho
    rw [ho]
    exact rbeh_ok_i (n := 3) w (by decide) rfl B rfl imm rfl (wm hm.2) ((sumR ⟨true, dl, dg⟩ (⟨true, imm, imm⟩ : Rg))).least ((sumR ⟨true, dl, dg⟩ (⟨true, imm, imm⟩ : Rg))).great hl hg (mk_at 3 (by decide) dl dg imm imm (kn_bounds hK B.dn B.rd) ⟨Nat.le_refl _, hm.2⟩ (by omega) (by omega) (sumR ⟨true, dl, dg⟩ (⟨true, imm, imm⟩ : Rg)) rfl)
theorem rbc_4 {c off : Int} {imm : Nat} {k : Kn} {d s dl dg sl sg : Nat} {ds ss : Bool} (w : World) (hm : MayI ⟨4, (d : Int), (s : Int), off, imm⟩) (hK : KnR k) (B : Bd ⟨4, (d : Int), (s : Int), off, imm⟩ k d s dl dg sl sg ds ss) : BG ⟨4, (d : Int), (s : Int), off, imm⟩ c k w (wayO (outI ⟨4, (d : Int), (s : Int), off, imm⟩ c k)) := by
  have hu : True := (fun _ _ => trivial) hm hK
  clear hu
  cases ds with
  | false =>
    have ho : outI ⟨4, (d : Int), (s : Int), off, imm⟩ c k = .error .unset := foldy_n1 (no_of hK B.dn B.rd)
    rw [ho]
    exact rbeh_ud (n := 4) w (by decide) rfl B rfl
  | true =>
    cases ss with
    | false =>
      have ho : outI ⟨4, (d : Int), (s : Int), off, imm⟩ c k = .error .unset := foldy_n2 (yes_of B.rd) (no_of hK B.sn B.rs)
      rw [ho]
      exact rbeh_us (n := 4) w (by decide) rfl B rfl rfl
    | true =>
      have ho : outI ⟨4, (d : Int), (s : Int), off, imm⟩ c k = .ok (k.set d (sumR ⟨true, dl, dg⟩ (⟨true, sl, sg⟩ : Rg)), noK) := foldy_ok (yes_of B.rd) (yes_of B.rs) rfl
      obtain ⟨hl, hg⟩ := out_ok hm hK B.dn ho
      have hM : fromR (sumR ⟨true, dl, dg⟩ (⟨true, sl, sg⟩ : Rg)).least (sumR ⟨true, dl, dg⟩ (⟨true, sl, sg⟩ : Rg)).great = (sumR ⟨true, dl, dg⟩ (⟨true, sl, sg⟩ : Rg)) := from_of (wide_set _ _)
      rw [← hM] at ho
      rw [ho]
      exact rbeh_ok_r (n := 4) w (by decide) rfl B rfl rfl ((sumR ⟨true, dl, dg⟩ (⟨true, sl, sg⟩ : Rg))).least ((sumR ⟨true, dl, dg⟩ (⟨true, sl, sg⟩ : Rg))).great hl hg (mk_at 4 (by decide) dl dg sl sg (kn_bounds hK B.dn B.rd) (kn_bounds hK B.sn B.rs) (by omega) (by omega) (sumR ⟨true, dl, dg⟩ (⟨true, sl, sg⟩ : Rg)) rfl)
theorem rbc_5 {c off : Int} {imm : Nat} {k : Kn} {d s dl dg sl sg : Nat} {ds ss : Bool} (w : World) (hm : MayI ⟨5, (d : Int), (s : Int), off, imm⟩) (hK : KnR k) (B : Bd ⟨5, (d : Int), (s : Int), off, imm⟩ k d s dl dg sl sg ds ss) : BG ⟨5, (d : Int), (s : Int), off, imm⟩ c k w (wayO (outI ⟨5, (d : Int), (s : Int), off, imm⟩ c k)) := by
  have hu : True := (fun _ _ => trivial) hm hK
  clear hu
  cases ds with
  | false =>
    have ho : outI ⟨5, (d : Int), (s : Int), off, imm⟩ c k = .error .unset := foldy_n1 (no_of hK B.dn B.rd)
    rw [ho]
    exact rbeh_ud (n := 5) w (by decide) rfl B rfl
  | true =>
    cases ss with
    | false =>
      have ho : outI ⟨5, (d : Int), (s : Int), off, imm⟩ c k = .error .unset := foldy_n2 (yes_of B.rd) (no_of hK B.sn B.rs)
      rw [ho]
      exact rbeh_us (n := 5) w (by decide) rfl B rfl rfl
    | true =>
      have ho : outI ⟨5, (d : Int), (s : Int), off, imm⟩ c k = .ok (k.set d (diffR ⟨true, dl, dg⟩ (⟨true, sl, sg⟩ : Rg)), noK) := foldy_ok (yes_of B.rd) (yes_of B.rs) rfl
      obtain ⟨hl, hg⟩ := out_ok hm hK B.dn ho
      have hM : fromR (diffR ⟨true, dl, dg⟩ (⟨true, sl, sg⟩ : Rg)).least (diffR ⟨true, dl, dg⟩ (⟨true, sl, sg⟩ : Rg)).great = (diffR ⟨true, dl, dg⟩ (⟨true, sl, sg⟩ : Rg)) := from_of (diff_set _ _)
      rw [← hM] at ho
      rw [ho]
      exact rbeh_ok_r (n := 5) w (by decide) rfl B rfl rfl ((diffR ⟨true, dl, dg⟩ (⟨true, sl, sg⟩ : Rg))).least ((diffR ⟨true, dl, dg⟩ (⟨true, sl, sg⟩ : Rg))).great hl hg (mk_at 5 (by decide) dl dg sl sg (kn_bounds hK B.dn B.rd) (kn_bounds hK B.sn B.rs) (by omega) (by omega) (diffR ⟨true, dl, dg⟩ (⟨true, sl, sg⟩ : Rg)) rfl)
theorem rbc_6 {c off : Int} {imm : Nat} {k : Kn} {d s dl dg sl sg : Nat} {ds ss : Bool} (w : World) (hm : MayI ⟨6, (d : Int), (s : Int), off, imm⟩) (hK : KnR k) (B : Bd ⟨6, (d : Int), (s : Int), off, imm⟩ k d s dl dg sl sg ds ss) : BG ⟨6, (d : Int), (s : Int), off, imm⟩ c k w (wayO (outI ⟨6, (d : Int), (s : Int), off, imm⟩ c k)) := by
  have hu : True := (fun _ _ => trivial) hm hK
  clear hu
  cases ds with
  | false =>
    have ho : outI ⟨6, (d : Int), (s : Int), off, imm⟩ c k = .error .unset := foldy_n1 (no_of hK B.dn B.rd)
    rw [ho]
    exact rbeh_ud (n := 6) w (by decide) rfl B rfl
  | true =>
    have ho : outI ⟨6, (d : Int), (s : Int), off, imm⟩ c k = .ok (k.set d (prodR ⟨true, dl, dg⟩ (⟨true, imm, imm⟩ : Rg)), noK) := foldy_ok (yes_of B.rd) rfl rfl
    obtain ⟨hl, hg⟩ := out_ok hm hK B.dn ho
    have hM : fromR (prodR ⟨true, dl, dg⟩ (⟨true, imm, imm⟩ : Rg)).least (prodR ⟨true, dl, dg⟩ (⟨true, imm, imm⟩ : Rg)).great = (prodR ⟨true, dl, dg⟩ (⟨true, imm, imm⟩ : Rg)) := from_of (wide_set _ _)
    rw [← hM] at ho
    rw [ho]
    exact rbeh_ok_i (n := 6) w (by decide) rfl B rfl imm rfl (wm hm.2) ((prodR ⟨true, dl, dg⟩ (⟨true, imm, imm⟩ : Rg))).least ((prodR ⟨true, dl, dg⟩ (⟨true, imm, imm⟩ : Rg))).great hl hg (mk_at 6 (by decide) dl dg imm imm (kn_bounds hK B.dn B.rd) ⟨Nat.le_refl _, hm.2⟩ (by omega) (by omega) (prodR ⟨true, dl, dg⟩ (⟨true, imm, imm⟩ : Rg)) rfl)
theorem rbc_7 {c off : Int} {imm : Nat} {k : Kn} {d s dl dg sl sg : Nat} {ds ss : Bool} (w : World) (hm : MayI ⟨7, (d : Int), (s : Int), off, imm⟩) (hK : KnR k) (B : Bd ⟨7, (d : Int), (s : Int), off, imm⟩ k d s dl dg sl sg ds ss) : BG ⟨7, (d : Int), (s : Int), off, imm⟩ c k w (wayO (outI ⟨7, (d : Int), (s : Int), off, imm⟩ c k)) := by
  have hu : True := (fun _ _ => trivial) hm hK
  clear hu
  cases ds with
  | false =>
    have ho : outI ⟨7, (d : Int), (s : Int), off, imm⟩ c k = .error .unset := foldy_n1 (no_of hK B.dn B.rd)
    rw [ho]
    exact rbeh_ud (n := 7) w (by decide) rfl B rfl
  | true =>
    cases ss with
    | false =>
      have ho : outI ⟨7, (d : Int), (s : Int), off, imm⟩ c k = .error .unset := foldy_n2 (yes_of B.rd) (no_of hK B.sn B.rs)
      rw [ho]
      exact rbeh_us (n := 7) w (by decide) rfl B rfl rfl
    | true =>
      have ho : outI ⟨7, (d : Int), (s : Int), off, imm⟩ c k = .ok (k.set d (prodR ⟨true, dl, dg⟩ (⟨true, sl, sg⟩ : Rg)), noK) := foldy_ok (yes_of B.rd) (yes_of B.rs) rfl
      obtain ⟨hl, hg⟩ := out_ok hm hK B.dn ho
      have hM : fromR (prodR ⟨true, dl, dg⟩ (⟨true, sl, sg⟩ : Rg)).least (prodR ⟨true, dl, dg⟩ (⟨true, sl, sg⟩ : Rg)).great = (prodR ⟨true, dl, dg⟩ (⟨true, sl, sg⟩ : Rg)) := from_of (wide_set _ _)
      rw [← hM] at ho
      rw [ho]
      exact rbeh_ok_r (n := 7) w (by decide) rfl B rfl rfl ((prodR ⟨true, dl, dg⟩ (⟨true, sl, sg⟩ : Rg))).least ((prodR ⟨true, dl, dg⟩ (⟨true, sl, sg⟩ : Rg))).great hl hg (mk_at 7 (by decide) dl dg sl sg (kn_bounds hK B.dn B.rd) (kn_bounds hK B.sn B.rs) (by omega) (by omega) (prodR ⟨true, dl, dg⟩ (⟨true, sl, sg⟩ : Rg)) rfl)
theorem rbc_8 {c off : Int} {imm : Nat} {k : Kn} {d s dl dg sl sg : Nat} {ds ss : Bool} (w : World) (hm : MayI ⟨8, (d : Int), (s : Int), off, imm⟩) (hK : KnR k) (B : Bd ⟨8, (d : Int), (s : Int), off, imm⟩ k d s dl dg sl sg ds ss) : BG ⟨8, (d : Int), (s : Int), off, imm⟩ c k w (wayO (outI ⟨8, (d : Int), (s : Int), off, imm⟩ c k)) := by
  have hu : True := (fun _ _ => trivial) hm hK
  clear hu
  cases ds with
  | false =>
    have ho : outI ⟨8, (d : Int), (s : Int), off, imm⟩ c k = .error .unset := foldy_n1 (no_of hK B.dn B.rd)
    rw [ho]
    exact rbeh_ud (n := 8) w (by decide) rfl B rfl
  | true =>
    have ho : outI ⟨8, (d : Int), (s : Int), off, imm⟩ c k = .ok (k.set d (comR ⟨true, dl, dg⟩ (⟨true, imm, imm⟩ : Rg)), noK) := foldy_ok (yes_of B.rd) rfl rfl
    obtain ⟨hl, hg⟩ := out_ok hm hK B.dn ho
    rw [ho]
    exact rbeh_ok_i (n := 8) w (by decide) rfl B rfl imm rfl (wm hm.2) ((comR ⟨true, dl, dg⟩ (⟨true, imm, imm⟩ : Rg))).least ((comR ⟨true, dl, dg⟩ (⟨true, imm, imm⟩ : Rg))).great hl hg (mk_at 8 (by decide) dl dg imm imm (kn_bounds hK B.dn B.rd) ⟨Nat.le_refl _, hm.2⟩ (by omega) (by omega) (comR ⟨true, dl, dg⟩ (⟨true, imm, imm⟩ : Rg)) rfl)
theorem rbc_9 {c off : Int} {imm : Nat} {k : Kn} {d s dl dg sl sg : Nat} {ds ss : Bool} (w : World) (hm : MayI ⟨9, (d : Int), (s : Int), off, imm⟩) (hK : KnR k) (B : Bd ⟨9, (d : Int), (s : Int), off, imm⟩ k d s dl dg sl sg ds ss) : BG ⟨9, (d : Int), (s : Int), off, imm⟩ c k w (wayO (outI ⟨9, (d : Int), (s : Int), off, imm⟩ c k)) := by
  have hu : True := (fun _ _ => trivial) hm hK
  clear hu
  cases ds with
  | false =>
    have ho : outI ⟨9, (d : Int), (s : Int), off, imm⟩ c k = .error .unset := foldy_n1 (no_of hK B.dn B.rd)
    rw [ho]
    exact rbeh_ud (n := 9) w (by decide) rfl B rfl
  | true =>
    cases ss with
    | false =>
      have ho : outI ⟨9, (d : Int), (s : Int), off, imm⟩ c k = .error .unset := foldy_n2 (yes_of B.rd) (no_of hK B.sn B.rs)
      rw [ho]
      exact rbeh_us (n := 9) w (by decide) rfl B rfl rfl
    | true =>
      have ho : outI ⟨9, (d : Int), (s : Int), off, imm⟩ c k = .ok (k.set d (comR ⟨true, dl, dg⟩ (⟨true, sl, sg⟩ : Rg)), noK) := foldy_ok (yes_of B.rd) (yes_of B.rs) rfl
      obtain ⟨hl, hg⟩ := out_ok hm hK B.dn ho
      rw [ho]
      exact rbeh_ok_r (n := 9) w (by decide) rfl B rfl rfl ((comR ⟨true, dl, dg⟩ (⟨true, sl, sg⟩ : Rg))).least ((comR ⟨true, dl, dg⟩ (⟨true, sl, sg⟩ : Rg))).great hl hg (mk_at 9 (by decide) dl dg sl sg (kn_bounds hK B.dn B.rd) (kn_bounds hK B.sn B.rs) (by omega) (by omega) (comR ⟨true, dl, dg⟩ (⟨true, sl, sg⟩ : Rg)) rfl)
theorem rbc_10 {c off : Int} {imm : Nat} {k : Kn} {d s dl dg sl sg : Nat} {ds ss : Bool} (w : World) (hm : MayI ⟨10, (d : Int), (s : Int), off, imm⟩) (hK : KnR k) (B : Bd ⟨10, (d : Int), (s : Int), off, imm⟩ k d s dl dg sl sg ds ss) : BG ⟨10, (d : Int), (s : Int), off, imm⟩ c k w (wayO (outI ⟨10, (d : Int), (s : Int), off, imm⟩ c k)) := by
  have hu : True := (fun _ _ => trivial) hm hK
  clear hu
  cases ds with
  | false =>
    have ho : outI ⟨10, (d : Int), (s : Int), off, imm⟩ c k = .error .unset := foldy_n1 (no_of hK B.dn B.rd)
    rw [ho]
    exact rbeh_ud (n := 10) w (by decide) rfl B rfl
  | true =>
    cases ss with
    | false =>
      have ho : outI ⟨10, (d : Int), (s : Int), off, imm⟩ c k = .error .unset := foldy_n2 (yes_of B.rd) (no_of hK B.sn B.rs)
      rw [ho]
      exact rbeh_us (n := 10) w (by decide) rfl B rfl rfl
    | true =>
      have ho : outI ⟨10, (d : Int), (s : Int), off, imm⟩ c k = .ok (k.set d (eitR ⟨true, dl, dg⟩ (⟨true, sl, sg⟩ : Rg)), noK) := foldy_ok (yes_of B.rd) (yes_of B.rs) rfl
      obtain ⟨hl, hg⟩ := out_ok hm hK B.dn ho
      rw [ho]
      exact rbeh_ok_r (n := 10) w (by decide) rfl B rfl rfl ((eitR ⟨true, dl, dg⟩ (⟨true, sl, sg⟩ : Rg))).least ((eitR ⟨true, dl, dg⟩ (⟨true, sl, sg⟩ : Rg))).great hl hg (mk_at 10 (by decide) dl dg sl sg (kn_bounds hK B.dn B.rd) (kn_bounds hK B.sn B.rs) (by omega) (by omega) (eitR ⟨true, dl, dg⟩ (⟨true, sl, sg⟩ : Rg)) rfl)
theorem rbc_11 {c off : Int} {imm : Nat} {k : Kn} {d s dl dg sl sg : Nat} {ds ss : Bool} (w : World) (hm : MayI ⟨11, (d : Int), (s : Int), off, imm⟩) (hK : KnR k) (B : Bd ⟨11, (d : Int), (s : Int), off, imm⟩ k d s dl dg sl sg ds ss) : BG ⟨11, (d : Int), (s : Int), off, imm⟩ c k w (wayO (outI ⟨11, (d : Int), (s : Int), off, imm⟩ c k)) := by
  have hu : True := (fun _ _ => trivial) hm hK
  clear hu
  cases ds with
  | false =>
    have ho : outI ⟨11, (d : Int), (s : Int), off, imm⟩ c k = .error .unset := foldy_n1 (no_of hK B.dn B.rd)
    rw [ho]
    exact rbeh_ud (n := 11) w (by decide) rfl B rfl
  | true =>
    cases ss with
    | false =>
      have ho : outI ⟨11, (d : Int), (s : Int), off, imm⟩ c k = .error .unset := foldy_n2 (yes_of B.rd) (no_of hK B.sn B.rs)
      rw [ho]
      exact rbeh_us (n := 11) w (by decide) rfl B rfl rfl
    | true =>
      have ho : outI ⟨11, (d : Int), (s : Int), off, imm⟩ c k = .ok (k.set d (apaR ⟨true, dl, dg⟩ (⟨true, sl, sg⟩ : Rg)), noK) := foldy_ok (yes_of B.rd) (yes_of B.rs) rfl
      obtain ⟨hl, hg⟩ := out_ok hm hK B.dn ho
      rw [ho]
      exact rbeh_ok_r (n := 11) w (by decide) rfl B rfl rfl ((apaR ⟨true, dl, dg⟩ (⟨true, sl, sg⟩ : Rg))).least ((apaR ⟨true, dl, dg⟩ (⟨true, sl, sg⟩ : Rg))).great hl hg (mk_at 11 (by decide) dl dg sl sg (kn_bounds hK B.dn B.rd) (kn_bounds hK B.sn B.rs) (by omega) (by omega) (apaR ⟨true, dl, dg⟩ (⟨true, sl, sg⟩ : Rg)) rfl)
theorem rbc_12 {c off : Int} {imm : Nat} {k : Kn} {d s dl dg sl sg : Nat} {ds ss : Bool} (w : World) (hm : MayI ⟨12, (d : Int), (s : Int), off, imm⟩) (hK : KnR k) (B : Bd ⟨12, (d : Int), (s : Int), off, imm⟩ k d s dl dg sl sg ds ss) : BG ⟨12, (d : Int), (s : Int), off, imm⟩ c k w (wayO (outI ⟨12, (d : Int), (s : Int), off, imm⟩ c k)) := by
  have hu : True := (fun _ _ => trivial) hm hK
  clear hu
  have him31 : imm ≤ 31 := may_p hm 12 rfl (by decide)
  cases ds with
  | false =>
    have ho : outI ⟨12, (d : Int), (s : Int), off, imm⟩ c k = .error .unset := foldy_n1 (no_of hK B.dn B.rd)
    rw [ho]
    exact rbeh_ud (n := 12) w (by decide) rfl B rfl
  | true =>
    have ho : outI ⟨12, (d : Int), (s : Int), off, imm⟩ c k = .ok (k.set d (prodR ⟨true, dl, dg⟩ (⟨true, 2 ^ imm, 2 ^ imm⟩ : Rg)), noK) := foldy_ok (yes_of B.rd) rfl rfl
    obtain ⟨hl, hg⟩ := out_ok hm hK B.dn ho
    have hM : fromR (prodR ⟨true, dl, dg⟩ (⟨true, 2 ^ imm, 2 ^ imm⟩ : Rg)).least (prodR ⟨true, dl, dg⟩ (⟨true, 2 ^ imm, 2 ^ imm⟩ : Rg)).great = (prodR ⟨true, dl, dg⟩ (⟨true, 2 ^ imm, 2 ^ imm⟩ : Rg)) := from_of (wide_set _ _)
    rw [← hM] at ho
    rw [ho]
    exact rbeh_ok_i (n := 12) w (by decide) rfl B rfl imm rfl (wm hm.2) ((prodR ⟨true, dl, dg⟩ (⟨true, 2 ^ imm, 2 ^ imm⟩ : Rg))).least ((prodR ⟨true, dl, dg⟩ (⟨true, 2 ^ imm, 2 ^ imm⟩ : Rg))).great hl hg (mk_at 12 (by decide) dl dg imm imm (kn_bounds hK B.dn B.rd) ⟨Nat.le_refl _, hm.2⟩ (fun _ => him31) (by omega) (prodR ⟨true, dl, dg⟩ (⟨true, 2 ^ imm, 2 ^ imm⟩ : Rg)) rfl)
theorem rbc_13 {c off : Int} {imm : Nat} {k : Kn} {d s dl dg sl sg : Nat} {ds ss : Bool} (w : World) (hm : MayI ⟨13, (d : Int), (s : Int), off, imm⟩) (hK : KnR k) (B : Bd ⟨13, (d : Int), (s : Int), off, imm⟩ k d s dl dg sl sg ds ss) : BG ⟨13, (d : Int), (s : Int), off, imm⟩ c k w (wayO (outI ⟨13, (d : Int), (s : Int), off, imm⟩ c k)) := by
  have hu : True := (fun _ _ => trivial) hm hK
  clear hu
  have him31 : imm ≤ 31 := may_p hm 13 rfl (by decide)
  cases ds with
  | false =>
    have ho : outI ⟨13, (d : Int), (s : Int), off, imm⟩ c k = .error .unset := foldy_n1 (no_of hK B.dn B.rd)
    rw [ho]
    exact rbeh_ud (n := 13) w (by decide) rfl B rfl
  | true =>
    have ho : outI ⟨13, (d : Int), (s : Int), off, imm⟩ c k = .ok (k.set d (quoR ⟨true, dl, dg⟩ (⟨true, 2 ^ imm, 2 ^ imm⟩ : Rg)), noK) := foldy_ok (yes_of B.rd) rfl (if_neg (Nat.ne_of_gt (Nat.pow_pos (by decide))))
    obtain ⟨hl, hg⟩ := out_ok hm hK B.dn ho
    rw [ho]
    exact rbeh_ok_i (n := 13) w (by decide) rfl B rfl imm rfl (wm hm.2) ((quoR ⟨true, dl, dg⟩ (⟨true, 2 ^ imm, 2 ^ imm⟩ : Rg))).least ((quoR ⟨true, dl, dg⟩ (⟨true, 2 ^ imm, 2 ^ imm⟩ : Rg))).great hl hg (mk_at 13 (by decide) dl dg imm imm (kn_bounds hK B.dn B.rd) ⟨Nat.le_refl _, hm.2⟩ (fun _ => him31) (by omega) (quoR ⟨true, dl, dg⟩ (⟨true, 2 ^ imm, 2 ^ imm⟩ : Rg)) rfl)
theorem rbc_14 {c off : Int} {imm : Nat} {k : Kn} {d s dl dg sl sg : Nat} {ds ss : Bool} (w : World) (hm : MayI ⟨14, (d : Int), (s : Int), off, imm⟩) (hK : KnR k) (B : Bd ⟨14, (d : Int), (s : Int), off, imm⟩ k d s dl dg sl sg ds ss) : BG ⟨14, (d : Int), (s : Int), off, imm⟩ c k w (wayO (outI ⟨14, (d : Int), (s : Int), off, imm⟩ c k)) := by
  have hu : True := (fun _ _ => trivial) hm hK
  clear hu
  cases ds with
  | false =>
    have ho : outI ⟨14, (d : Int), (s : Int), off, imm⟩ c k = .error .unset := foldy_n1 (no_of hK B.dn B.rd)
    rw [ho]
    exact rbeh_ud (n := 14) w (by decide) rfl B rfl
  | true =>
    cases ss with
    | false =>
      have ho : outI ⟨14, (d : Int), (s : Int), off, imm⟩ c k = .error .unset := foldy_n2 (yes_of B.rd) (no_of hK B.sn B.rs)
      rw [ho]
      exact rbeh_us (n := 14) w (by decide) rfl B rfl rfl
    | true =>
      by_cases hz : sl = 0
      · have ho : outI ⟨14, (d : Int), (s : Int), off, imm⟩ c k = .error .zero := foldy_n3 (yes_of B.rd) (yes_of B.rs) (if_pos hz)
        rw [ho]
        exact rbeh_z_14 w rfl B rfl rfl hz
      · have ho : outI ⟨14, (d : Int), (s : Int), off, imm⟩ c k = .ok (k.set d (quoR ⟨true, dl, dg⟩ (⟨true, sl, sg⟩ : Rg)), noK) := foldy_ok (yes_of B.rd) (yes_of B.rs) (if_neg hz)
        obtain ⟨hl, hg⟩ := out_ok hm hK B.dn ho
        rw [ho]
        exact rbeh_ok_14 w rfl B rfl rfl (by simp; omega) ((quoR ⟨true, dl, dg⟩ (⟨true, sl, sg⟩ : Rg))).least ((quoR ⟨true, dl, dg⟩ (⟨true, sl, sg⟩ : Rg))).great hl hg (mk_at 14 (by decide) dl dg sl sg (kn_bounds hK B.dn B.rd) (kn_bounds hK B.sn B.rs) (by omega) (fun _ => Nat.pos_of_ne_zero hz) (quoR ⟨true, dl, dg⟩ (⟨true, sl, sg⟩ : Rg)) rfl)
theorem rbc_15 {c off : Int} {imm : Nat} {k : Kn} {d s dl dg sl sg : Nat} {ds ss : Bool} (w : World) (hm : MayI ⟨15, (d : Int), (s : Int), off, imm⟩) (hK : KnR k) (B : Bd ⟨15, (d : Int), (s : Int), off, imm⟩ k d s dl dg sl sg ds ss) : BG ⟨15, (d : Int), (s : Int), off, imm⟩ c k w (wayO (outI ⟨15, (d : Int), (s : Int), off, imm⟩ c k)) := by
  have hu : True := (fun _ _ => trivial) hm hK
  clear hu
  cases ds with
  | false =>
    have ho : outI ⟨15, (d : Int), (s : Int), off, imm⟩ c k = .error .unset := foldy_n1 (no_of hK B.dn B.rd)
    rw [ho]
    exact rbeh_ud (n := 15) w (by decide) rfl B rfl
  | true =>
    cases ss with
    | false =>
      have ho : outI ⟨15, (d : Int), (s : Int), off, imm⟩ c k = .error .unset := foldy_n2 (yes_of B.rd) (no_of hK B.sn B.rs)
      rw [ho]
      exact rbeh_us (n := 15) w (by decide) rfl B rfl rfl
    | true =>
      by_cases hz : sl = 0
      · have ho : outI ⟨15, (d : Int), (s : Int), off, imm⟩ c k = .error .zero := foldy_n3 (yes_of B.rd) (yes_of B.rs) (if_pos hz)
        rw [ho]
        exact rbeh_z_15 w rfl B rfl rfl hz
      · have ho : outI ⟨15, (d : Int), (s : Int), off, imm⟩ c k = .ok (k.set d (restR ⟨true, dl, dg⟩ (⟨true, sl, sg⟩ : Rg)), noK) := foldy_ok (yes_of B.rd) (yes_of B.rs) (if_neg hz)
        obtain ⟨hl, hg⟩ := out_ok hm hK B.dn ho
        rw [ho]
        exact rbeh_ok_15 w rfl B rfl rfl (by simp; omega) ((restR ⟨true, dl, dg⟩ (⟨true, sl, sg⟩ : Rg))).least ((restR ⟨true, dl, dg⟩ (⟨true, sl, sg⟩ : Rg))).great hl hg (mk_at 15 (by decide) dl dg sl sg (kn_bounds hK B.dn B.rd) (kn_bounds hK B.sn B.rs) (by omega) (fun _ => Nat.pos_of_ne_zero hz) (restR ⟨true, dl, dg⟩ (⟨true, sl, sg⟩ : Rg)) rfl)
theorem rbc_16 {c off : Int} {imm : Nat} {k : Kn} {d s dl dg sl sg : Nat} {ds ss : Bool} (w : World) (hm : MayI ⟨16, (d : Int), (s : Int), off, imm⟩) (hK : KnR k) (B : Bd ⟨16, (d : Int), (s : Int), off, imm⟩ k d s dl dg sl sg ds ss) : BG ⟨16, (d : Int), (s : Int), off, imm⟩ c k w (wayO (outI ⟨16, (d : Int), (s : Int), off, imm⟩ c k)) := by
  have hu : True := (fun _ _ => trivial) hm hK
  clear hu
  have hoff : -32768 ≤ off ∧ off ≤ 32767 := by have := hm.1.2.2.2.1; have h2 : (16 : Int) = 16 := rfl; simp only [] at this; omega
  cases ss with
  | false =>
    have ho : outI ⟨16, (d : Int), (s : Int), off, imm⟩ c k = .error .unset := by show bindE (needE k s) _ = _; rw [no_of hK B.sn B.rs]; rfl
    rw [ho]
    exact rbeh_us16 w rfl B rfl
  | true =>
    have hb := kn_bounds hK B.sn B.rs
    have e1 : wrap64 ((sl : Int) + off) = (sl : Int) + off := w64 (by omega) (by omega)
    have e2 : wrap64 ((sg : Int) + off) = (sg : Int) + off := w64 (by omega) (by omega)
    by_cases h1 : (sl : Int) + off < 0
    · have ho : outI ⟨16, (d : Int), (s : Int), off, imm⟩ c k = .error .beyond := by show bindE (needE k s) _ = _; rw [yes_of B.rs]; exact if_neg (by rw [fits_no1 (r := ⟨true, sl, sg⟩) h1]; decide)
      rw [ho]
      exact rbeh_b1_16 w rfl B rfl h1 e1
    by_cases h2 : c ≤ (sg : Int) + off
    · have ho : outI ⟨16, (d : Int), (s : Int), off, imm⟩ c k = .error .beyond := by show bindE (needE k s) _ = _; rw [yes_of B.rs]; exact if_neg (by rw [fits_no2 (r := ⟨true, sl, sg⟩) h2]; decide)
      rw [ho]
      exact rbeh_b2_16 w rfl B rfl h1 h2 e1 e2
    have ho : outI ⟨16, (d : Int), (s : Int), off, imm⟩ c k = .ok (k.set d (fromR 0 255), noK) := by show bindE (needE k s) _ = _; rw [yes_of B.rs]; exact if_pos (fits_yes (r := ⟨true, sl, sg⟩) h1 h2)
    rw [ho]
    exact rbeh_ok_16 w rfl B rfl h1 h2 e1 e2
theorem rbc_17 {c off : Int} {imm : Nat} {k : Kn} {d s dl dg sl sg : Nat} {ds ss : Bool} (w : World) (hm : MayI ⟨17, (d : Int), (s : Int), off, imm⟩) (hK : KnR k) (B : Bd ⟨17, (d : Int), (s : Int), off, imm⟩ k d s dl dg sl sg ds ss) : BG ⟨17, (d : Int), (s : Int), off, imm⟩ c k w (wayO (outI ⟨17, (d : Int), (s : Int), off, imm⟩ c k)) := by
  have hu : True := (fun _ _ => trivial) hm hK
  clear hu
  have hoff : -32768 ≤ off ∧ off ≤ 32767 := by have := hm.1.2.2.2.1; have h2 : (17 : Int) = 17 := rfl; simp only [] at this; omega
  cases ss with
  | false =>
    have ho : outI ⟨17, (d : Int), (s : Int), off, imm⟩ c k = .error .unset := by show bindE (needE k s) _ = _; rw [no_of hK B.sn B.rs]; rfl
    rw [ho]
    exact rbeh_us17 w rfl B rfl
  | true =>
    have hb := kn_bounds hK B.sn B.rs
    have e1 : wrap64 ((sl : Int) + off) = (sl : Int) + off := w64 (by omega) (by omega)
    have e2 : wrap64 ((sg : Int) + off) = (sg : Int) + off := w64 (by omega) (by omega)
    by_cases h1 : (sl : Int) + off < 0
    · have ho : outI ⟨17, (d : Int), (s : Int), off, imm⟩ c k = .error .beyond := by show bindE (needE k s) _ = _; rw [yes_of B.rs]; exact if_neg (by rw [fits_no1 (r := ⟨true, sl, sg⟩) h1]; decide)
      rw [ho]
      exact rbeh_b1_17 w rfl B rfl h1 e1
    by_cases h2 : 64 ≤ (sg : Int) + off
    · have ho : outI ⟨17, (d : Int), (s : Int), off, imm⟩ c k = .error .beyond := by show bindE (needE k s) _ = _; rw [yes_of B.rs]; exact if_neg (by rw [fits_no2 (r := ⟨true, sl, sg⟩) h2]; decide)
      rw [ho]
      exact rbeh_b2_17 w rfl B rfl h1 h2 e1 e2
    have ho : outI ⟨17, (d : Int), (s : Int), off, imm⟩ c k = .ok (k.set d (fromR 0 255), noK) := by show bindE (needE k s) _ = _; rw [yes_of B.rs]; exact if_pos (fits_yes (r := ⟨true, sl, sg⟩) h1 h2)
    rw [ho]
    exact rbeh_ok_17 w rfl B rfl h1 h2 e1 e2
theorem rbc_18 {c off : Int} {imm : Nat} {k : Kn} {d s dl dg sl sg : Nat} {ds ss : Bool} (w : World) (hm : MayI ⟨18, (d : Int), (s : Int), off, imm⟩) (hK : KnR k) (B : Bd ⟨18, (d : Int), (s : Int), off, imm⟩ k d s dl dg sl sg ds ss) : BG ⟨18, (d : Int), (s : Int), off, imm⟩ c k w (wayO (outI ⟨18, (d : Int), (s : Int), off, imm⟩ c k)) := by
  have hu : True := (fun _ _ => trivial) hm hK
  clear hu
  have hoff : -32768 ≤ off ∧ off ≤ 32767 := by have := hm.1.2.2.2.1; have h2 : (18 : Int) = 18 := rfl; simp only [] at this; omega
  cases ds with
  | false =>
    have ho : outI ⟨18, (d : Int), (s : Int), off, imm⟩ c k = .error .unset := by show bindE (needE k d) _ = _; rw [no_of hK B.dn B.rd]; rfl
    rw [ho]
    exact rbeh_ud (n := 18) w (by decide) rfl B rfl
  | true =>
    cases ss with
    | false =>
      have ho : outI ⟨18, (d : Int), (s : Int), off, imm⟩ c k = .error .unset := by show bindE (needE k d) _ = _; rw [yes_of B.rd]; show bindE (needE k s) _ = _; rw [no_of hK B.sn B.rs]; rfl
      rw [ho]
      exact rbeh_us (n := 18) w (by decide) rfl B rfl rfl
    | true =>
      have hb := kn_bounds hK B.dn B.rd
      have e1 : wrap64 ((dl : Int) + off) = (dl : Int) + off := w64 (by omega) (by omega)
      have e2 : wrap64 ((dg : Int) + off) = (dg : Int) + off := w64 (by omega) (by omega)
      by_cases h1 : (dl : Int) + off < 0
      · have ho : outI ⟨18, (d : Int), (s : Int), off, imm⟩ c k = .error .beyond := by show bindE (needE k d) _ = _; rw [yes_of B.rd]; show bindE (needE k s) _ = _; rw [yes_of B.rs]; exact if_neg (by rw [fits_no1 (r := ⟨true, dl, dg⟩) h1]; decide)
        rw [ho]
        exact rbeh_b1_18 w rfl B rfl rfl h1 e1
      by_cases h2 : 64 ≤ (dg : Int) + off
      · have ho : outI ⟨18, (d : Int), (s : Int), off, imm⟩ c k = .error .beyond := by show bindE (needE k d) _ = _; rw [yes_of B.rd]; show bindE (needE k s) _ = _; rw [yes_of B.rs]; exact if_neg (by rw [fits_no2 (r := ⟨true, dl, dg⟩) h2]; decide)
        rw [ho]
        exact rbeh_b2_18 w rfl B rfl rfl h1 h2 e1 e2
      have ho : outI ⟨18, (d : Int), (s : Int), off, imm⟩ c k = .ok (k, noK) := by show bindE (needE k d) _ = _; rw [yes_of B.rd]; show bindE (needE k s) _ = _; rw [yes_of B.rs]; exact if_pos (fits_yes (r := ⟨true, dl, dg⟩) h1 h2)
      rw [ho]
      exact rbeh_ok_18 w rfl B rfl rfl h1 h2 e1 e2
theorem rbc_19 {c off : Int} {imm : Nat} {k : Kn} {d s dl dg sl sg : Nat} {ds ss : Bool} (w : World) (hm : MayI ⟨19, (d : Int), (s : Int), off, imm⟩) (hK : KnR k) (B : Bd ⟨19, (d : Int), (s : Int), off, imm⟩ k d s dl dg sl sg ds ss) : BG ⟨19, (d : Int), (s : Int), off, imm⟩ c k w (wayO (outI ⟨19, (d : Int), (s : Int), off, imm⟩ c k)) := by
  have hu : True := (fun _ _ => trivial) hm hK
  clear hu
  have ho : outI ⟨19, (d : Int), (s : Int), off, imm⟩ c k = .ok (noK, k) := rfl
  rw [ho]
  exact rbeh_ok_19 w rfl B 
theorem rbc_20 {c off : Int} {imm : Nat} {k : Kn} {d s dl dg sl sg : Nat} {ds ss : Bool} (w : World) (hm : MayI ⟨20, (d : Int), (s : Int), off, imm⟩) (hK : KnR k) (B : Bd ⟨20, (d : Int), (s : Int), off, imm⟩ k d s dl dg sl sg ds ss) : BG ⟨20, (d : Int), (s : Int), off, imm⟩ c k w (wayO (outI ⟨20, (d : Int), (s : Int), off, imm⟩ c k)) := by
  have hu : True := (fun _ _ => trivial) hm hK
  clear hu
  cases ds with
  | false =>
    have ho : outI ⟨20, (d : Int), (s : Int), off, imm⟩ c k = .error .unset := by show bindE (needE k d) _ = _; rw [no_of hK B.dn B.rd]; rfl
    rw [ho]
    exact rbeh_ud (n := 20) w (by decide) rfl B rfl
  | true =>
    have hb := kn_bounds hK B.dn B.rd
    have ho : outI ⟨20, (d : Int), (s : Int), off, imm⟩ c k = .ok ((o20 k d imm (fromR dl dg)).1, (o20 k d imm (fromR dl dg)).2) := by show bindE (needE k d) _ = _; rw [yes_of B.rd]; rfl
    rw [ho]
    exact rbeh_ok_20 w rfl B rfl imm rfl (wm hm.2) _ _ (fun X => rjump_o20 ⟨20, (d : Int), (s : Int), off, imm⟩ k d dl dg imm X rfl rfl B.dn hb.1 hb.2 hm.2)
theorem rbc_21 {c off : Int} {imm : Nat} {k : Kn} {d s dl dg sl sg : Nat} {ds ss : Bool} (w : World) (hm : MayI ⟨21, (d : Int), (s : Int), off, imm⟩) (hK : KnR k) (B : Bd ⟨21, (d : Int), (s : Int), off, imm⟩ k d s dl dg sl sg ds ss) : BG ⟨21, (d : Int), (s : Int), off, imm⟩ c k w (wayO (outI ⟨21, (d : Int), (s : Int), off, imm⟩ c k)) := by
  have hu : True := (fun _ _ => trivial) hm hK
  clear hu
  cases ds with
  | false =>
    have ho : outI ⟨21, (d : Int), (s : Int), off, imm⟩ c k = .error .unset := by show bindE (needE k d) _ = _; rw [no_of hK B.dn B.rd]; rfl
    rw [ho]
    exact rbeh_ud (n := 21) w (by decide) rfl B rfl
  | true =>
    have hb := kn_bounds hK B.dn B.rd
    have ho : outI ⟨21, (d : Int), (s : Int), off, imm⟩ c k = .ok ((o21 k d imm (fromR dl dg)).1, (o21 k d imm (fromR dl dg)).2) := by show bindE (needE k d) _ = _; rw [yes_of B.rd]; rfl
    rw [ho]
    exact rbeh_ok_21 w rfl B rfl imm rfl (wm hm.2) _ _ (fun X => rjump_o21 ⟨21, (d : Int), (s : Int), off, imm⟩ k d dl dg imm X rfl rfl B.dn hb.1 hb.2 hm.2)
theorem rbc_22 {c off : Int} {imm : Nat} {k : Kn} {d s dl dg sl sg : Nat} {ds ss : Bool} (w : World) (hm : MayI ⟨22, (d : Int), (s : Int), off, imm⟩) (hK : KnR k) (B : Bd ⟨22, (d : Int), (s : Int), off, imm⟩ k d s dl dg sl sg ds ss) : BG ⟨22, (d : Int), (s : Int), off, imm⟩ c k w (wayO (outI ⟨22, (d : Int), (s : Int), off, imm⟩ c k)) := by
  have hu : True := (fun _ _ => trivial) hm hK
  clear hu
  cases ds with
  | false =>
    have ho : outI ⟨22, (d : Int), (s : Int), off, imm⟩ c k = .error .unset := by show bindE (needE k d) _ = _; rw [no_of hK B.dn B.rd]; rfl
    rw [ho]
    exact rbeh_ud (n := 22) w (by decide) rfl B rfl
  | true =>
    cases ss with
    | false =>
      have ho : outI ⟨22, (d : Int), (s : Int), off, imm⟩ c k = .error .unset := by show bindE (needE k d) _ = _; rw [yes_of B.rd]; show bindE (needE k s) _ = _; rw [no_of hK B.sn B.rs]; rfl
      rw [ho]
      exact rbeh_us (n := 22) w (by decide) rfl B rfl rfl
    | true =>
      have hb := kn_bounds hK B.dn B.rd
      have hb2 := kn_bounds hK B.sn B.rs
      have ho : outI ⟨22, (d : Int), (s : Int), off, imm⟩ c k = .ok ((o22 k d s (fromR dl dg) (fromR sl sg)).1, (o22 k d s (fromR dl dg) (fromR sl sg)).2) := by
        show bindE (needE k d) _ = _
        rw [yes_of B.rd]
        show bindE (needE k s) _ = _
        rw [yes_of B.rs]
        show (if d = s then _ else _) = Except.ok ((if d = s then _ else _ : Kn × Kn).1, (if d = s then _ else _ : Kn × Kn).2)
        by_cases e : d = s
        · rw [if_pos e, if_pos e]
        · rw [if_neg e, if_neg e]; rfl
      rw [ho]
      exact rbeh_ok_22 w rfl B rfl rfl _ _ (fun X => rjump_o22 ⟨22, (d : Int), (s : Int), off, imm⟩ k d s dl dg sl sg X rfl rfl B.dn rfl B.sn hb.1 hb.2 hb2.1 hb2.2)
theorem rbc_23 {c off : Int} {imm : Nat} {k : Kn} {d s dl dg sl sg : Nat} {ds ss : Bool} (w : World) (hm : MayI ⟨23, (d : Int), (s : Int), off, imm⟩) (hK : KnR k) (B : Bd ⟨23, (d : Int), (s : Int), off, imm⟩ k d s dl dg sl sg ds ss) : BG ⟨23, (d : Int), (s : Int), off, imm⟩ c k w (wayO (outI ⟨23, (d : Int), (s : Int), off, imm⟩ c k)) := by
  have hu : True := (fun _ _ => trivial) hm hK
  clear hu
  have ho : outI ⟨23, (d : Int), (s : Int), off, imm⟩ c k = .ok (callK k 5, noK) := rfl
  rw [ho]
  exact rbeh_ok_23 w rfl B imm rfl (wm hm.2)
theorem rbc_24 {c off : Int} {imm : Nat} {k : Kn} {d s dl dg sl sg : Nat} {ds ss : Bool} (w : World) (hm : MayI ⟨24, (d : Int), (s : Int), off, imm⟩) (hK : KnR k) (B : Bd ⟨24, (d : Int), (s : Int), off, imm⟩ k d s dl dg sl sg ds ss) : BG ⟨24, (d : Int), (s : Int), off, imm⟩ c k w (wayO (outI ⟨24, (d : Int), (s : Int), off, imm⟩ c k)) := by
  have hu : True := (fun _ _ => trivial) hm hK
  clear hu
  cases h0 : (k.r 0).set with
  | false =>
    have ho : outI ⟨24, (d : Int), (s : Int), off, imm⟩ c k = .error .unset := by show bindE (needE k 0) _ = _; rw [no_of (l := (k.r 0).least) (g := (k.r 0).great) hK (by decide) (by rw [← h0])]; rfl
    rw [ho]
    exact rbeh_u0 w rfl B h0
  | true =>
    have ho : outI ⟨24, (d : Int), (s : Int), off, imm⟩ c k = .ok (noK, noK) := by show bindE (needE k 0) _ = _; rw [yes_of (l := (k.r 0).least) (g := (k.r 0).great) (by rw [← h0])]; rfl
    rw [ho]
    exact rbeh_ok_24 w rfl B h0
theorem may_regs {i : Ins} (h : MayI i) : ∃ d s : Nat, i.dst = (d : Int) ∧ i.src = (s : Int) ∧ d < 10 ∧ s < 10 := by
  have h1 := h.1
  unfold MayP at h1
  exact ⟨i.dst.toNat, i.src.toNat, by omega, by omega, by omega, by omega⟩
theorem rbeh_come (i : Ins) (c : Int) (k : Kn) (w : World) (hm : MayI i) (hK : KnR k) (hc : k.come = true) :
    Calls Tryd.prog 20 #[.agg i.a, .int .i64 c, .agg k.a] w fun e w' => e = .returned (.agg (wayO (outI i c k))) ∧ Below w.heap.size w w' := by
  obtain ⟨d, s, h1, h2, hdn, hsn⟩ := may_regs hm
  have hop := hm.1.1
  obtain ⟨op, dst, src, off, imm⟩ := i
  obtain rfl : dst = (d : Int) := h1
  obtain rfl : src = (s : Int) := h2
  obtain ⟨ds, dl, dg, hrd⟩ : ∃ a l g, k.r d = ⟨a, l, g⟩ := ⟨_, _, _, rfl⟩
  obtain ⟨ss, sl, sg, hrs⟩ : ∃ a l g, k.r s = ⟨a, l, g⟩ := ⟨_, _, _, rfl⟩
  simp only at hop
  obtain rfl | rfl | rfl | rfl | rfl | rfl | rfl | rfl | rfl | rfl | rfl | rfl | rfl | rfl | rfl | rfl | rfl | rfl | rfl | rfl | rfl | rfl | rfl | rfl : op = 1 ∨ op = 2 ∨ op = 3 ∨ op = 4 ∨ op = 5 ∨ op = 6 ∨ op = 7 ∨ op = 8 ∨ op = 9 ∨ op = 10 ∨ op = 11 ∨ op = 12 ∨ op = 13 ∨ op = 14 ∨ op = 15 ∨ op = 16 ∨ op = 17 ∨ op = 18 ∨ op = 19 ∨ op = 20 ∨ op = 21 ∨ op = 22 ∨ op = 23 ∨ op = 24 := by omega
  · exact rbc_1 w hm hK ⟨hc, rfl, hdn, rfl, hsn, hrd, hrs, (hK d hdn).2, (hK s hsn).2⟩
  · exact rbc_2 w hm hK ⟨hc, rfl, hdn, rfl, hsn, hrd, hrs, (hK d hdn).2, (hK s hsn).2⟩
  · exact rbc_3 w hm hK ⟨hc, rfl, hdn, rfl, hsn, hrd, hrs, (hK d hdn).2, (hK s hsn).2⟩
  · exact rbc_4 w hm hK ⟨hc, rfl, hdn, rfl, hsn, hrd, hrs, (hK d hdn).2, (hK s hsn).2⟩
  · exact rbc_5 w hm hK ⟨hc, rfl, hdn, rfl, hsn, hrd, hrs, (hK d hdn).2, (hK s hsn).2⟩
  · exact rbc_6 w hm hK ⟨hc, rfl, hdn, rfl, hsn, hrd, hrs, (hK d hdn).2, (hK s hsn).2⟩
  · exact rbc_7 w hm hK ⟨hc, rfl, hdn, rfl, hsn, hrd, hrs, (hK d hdn).2, (hK s hsn).2⟩
  · exact rbc_8 w hm hK ⟨hc, rfl, hdn, rfl, hsn, hrd, hrs, (hK d hdn).2, (hK s hsn).2⟩
  · exact rbc_9 w hm hK ⟨hc, rfl, hdn, rfl, hsn, hrd, hrs, (hK d hdn).2, (hK s hsn).2⟩
  · exact rbc_10 w hm hK ⟨hc, rfl, hdn, rfl, hsn, hrd, hrs, (hK d hdn).2, (hK s hsn).2⟩
  · exact rbc_11 w hm hK ⟨hc, rfl, hdn, rfl, hsn, hrd, hrs, (hK d hdn).2, (hK s hsn).2⟩
  · exact rbc_12 w hm hK ⟨hc, rfl, hdn, rfl, hsn, hrd, hrs, (hK d hdn).2, (hK s hsn).2⟩
  · exact rbc_13 w hm hK ⟨hc, rfl, hdn, rfl, hsn, hrd, hrs, (hK d hdn).2, (hK s hsn).2⟩
  · exact rbc_14 w hm hK ⟨hc, rfl, hdn, rfl, hsn, hrd, hrs, (hK d hdn).2, (hK s hsn).2⟩
  · exact rbc_15 w hm hK ⟨hc, rfl, hdn, rfl, hsn, hrd, hrs, (hK d hdn).2, (hK s hsn).2⟩
  · exact rbc_16 w hm hK ⟨hc, rfl, hdn, rfl, hsn, hrd, hrs, (hK d hdn).2, (hK s hsn).2⟩
  · exact rbc_17 w hm hK ⟨hc, rfl, hdn, rfl, hsn, hrd, hrs, (hK d hdn).2, (hK s hsn).2⟩
  · exact rbc_18 w hm hK ⟨hc, rfl, hdn, rfl, hsn, hrd, hrs, (hK d hdn).2, (hK s hsn).2⟩
  · exact rbc_19 w hm hK ⟨hc, rfl, hdn, rfl, hsn, hrd, hrs, (hK d hdn).2, (hK s hsn).2⟩
  · exact rbc_20 w hm hK ⟨hc, rfl, hdn, rfl, hsn, hrd, hrs, (hK d hdn).2, (hK s hsn).2⟩
  · exact rbc_21 w hm hK ⟨hc, rfl, hdn, rfl, hsn, hrd, hrs, (hK d hdn).2, (hK s hsn).2⟩
  · exact rbc_22 w hm hK ⟨hc, rfl, hdn, rfl, hsn, hrd, hrs, (hK d hdn).2, (hK s hsn).2⟩
  · exact rbc_23 w hm hK ⟨hc, rfl, hdn, rfl, hsn, hrd, hrs, (hK d hdn).2, (hK s hsn).2⟩
  · exact rbc_24 w hm hK ⟨hc, rfl, hdn, rfl, hsn, hrd, hrs, (hK d hdn).2, (hK s hsn).2⟩
end Go.Proofs.YtodkehpldlmgaaaDoor
