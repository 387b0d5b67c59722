/- A tree: New, none, asked, Len, Leaf. -/
import Derived.Test.YtcmkjgodgocdfaaDoorN4
import Derived.Test.YtcmkjgodgocdfaaDoorM1
namespace Go.Proofs.YtcmkjgodgocdfaaDoor
open Go.RowKit

/-- A tree of leaves, which lie in no block below B. -/
def TreeAt (B : Nat) (w : World) (tb : Nat) (ds : List Dig) : Prop := 0 < ds.length ∧ ds.length ≤ 16 ∧ B ≤ tb ∧ ∃ v, Has w tb #[v] 64 ∧ OwnD B w v ds
theorem TreeAt.below {B tb : Nat} {w w' : World} {ds : List Dig} (h : TreeAt B w tb ds) (k : Below w.heap.size w w') : TreeAt B w' tb ds := by
  obtain ⟨h1, h2, h3, v, h4, h5⟩ := h
  exact ⟨h1, h2, h3, v, h4.below k h4.lt, h5.below k⟩
theorem nil_ne (a : Addr) (n c : Nat) (w : World) : (binOp .eql 22 (.slice (some a) n c) (.slice none 0 0)).run Tryd.prog w = .ok (.bool false) w := by
  simp only [binOp, Op.equal]
  rw [show Op.maxDepth = 9999 + 1 from rfl, Op.equalIn]
  simp [go_sem, run_underlying Tryd.underlying22, Result.andThen]
set_option maxRecDepth 100000 in
set_option maxHeartbeats 1000000 in
theorem clone_any (v : Value) (ds : List Dig) (w : World) (hv : Digs w v ds) (hne : 0 < ds.length) (hn : ds.length ≤ 16) :
    Calls Tryd.prog 31 #[v] w fun e w' => ∃ v', e = .returned v' ∧ OwnD w.heap.size w' v' ds ∧ Below w.heap.size w w' := by
  have hv' := hv
  obtain ⟨h32, a, cap, g, o, rfl, hcap, hmx, ha, hin, hgl⟩ := hv
  obtain rfl := ha (by intro e; simp [e] at hne)
  clear ha
  have hm : OwnD w.heap.size (w.alloc (.cells #[] 30)) (.slice (some ⟨w.heap.size, 0, none⟩) 0 0) [] :=
    ⟨All32.nil, World.ownsRow_made w #[] 0 (Nat.le_refl _) (by simp only [maxLen]; omega) rfl⟩
  have hB0 := (Below.refl w.heap.size w).alloc (Nat.le_refl _) (.cells #[] 30)
  have hv2 := hv'.below hB0
  have hq := nil_ne ⟨g, o, none⟩ ds.length cap w
  go_enter Tryd.func31, Tryd.ntmps31
  go_wp2_with (refine wpList_append_digs rfl _ _ rfl w.heap.size _ _ [] ds rfl rfl hm hv2 (by simp; omega) (by simp) ?_; intro v1 w1 ho1 hg1)
  go_ret
  exact ⟨_, rfl, by simpa using ho1, hB0.trans (grown_low2 hm.2 hg1 (by simp))⟩
set_option maxHeartbeats 1000000 in
theorem tnew_any (v : Value) (ds : List Dig) (w : World) (hv : Digs w v ds) (hne : 0 < ds.length) (hn : ds.length ≤ 16) :
    Calls Tryd.prog 14 #[v] w fun e w' => ∃ tb, e = .returned (.tuple #[.pointer (some ⟨tb, 0, none⟩), .int .i64 0]) ∧ TreeAt w.heap.size w' tb ds ∧ Below w.heap.size w w' := by
  have hm : mayB (ds.length : Int) = true := by simp [mayB]; omega
  have hc := clone_any v ds w hv hne hn
  obtain ⟨a, cap, rfl⟩ := hv.slice
  obtain ⟨n, hnn⟩ : ∃ n, ds.length = n := ⟨_, rfl⟩
  rw [hnn] at hm hc ⊢
  go_enter Tryd.func14, Tryd.ntmps14
  go_wp2_with (first
    | (go_at_call 30; refine (may_any _ _).mono ?_; rintro e w' ⟨rfl, hw⟩; obtain rfl := hw.symm)
    | (go_at_call 31; refine hc.mono ?_; rintro e w' ⟨v', rfl, ho, hB⟩; obtain ⟨a1, n1, c1, rfl⟩ : ∃ a n c, v' = Value.slice a n c := (by obtain ⟨a, c, e⟩ := ho.slice; exact ⟨a, _, c, e⟩)))
  go_ret2
  exact ⟨_, rfl, ⟨hne, hn, hB.size, _, has_new _ _ _ _ rfl, ho.alloc _⟩, hB.alloc hB.size _⟩
set_option maxHeartbeats 1000000 in
theorem tnew_bad (a : Option Addr) (n cap : Nat) (w : World) (h : mayB (n : Int) = false) :
    Calls Tryd.prog 14 #[.slice a n cap] w fun e w' => e = .returned (.tuple #[.pointer none, .int .i64 2]) ∧ w' = w := by
  go_enter Tryd.func14, Tryd.ntmps14
  go_wp2_with (go_at_call 30; refine (may_any _ _).mono ?_; rintro e w' ⟨rfl, hw⟩; obtain rfl := hw.symm)
  go_ret2
  exact ⟨rfl, rfl⟩
set_option maxHeartbeats 1000000 in
theorem none_tree {B tb : Nat} {ds : List Dig} {w : World} (h : TreeAt B w tb ds) : Calls Tryd.prog 32 #[.pointer (some ⟨tb, 0, none⟩)] w fun e w' => e = .returned (.bool false) ∧ w' = w := by
  obtain ⟨h0, h16, _, v, hv, ho⟩ := h
  obtain ⟨a, c, rfl⟩ := ho.slice
  have c1 := hv.one
  have hne : ¬ ds.length = 0 := by omega
  go_enter Tryd.func32, Tryd.ntmps32
  go_wp2
  go_ret
  exact ⟨by simp [hne], rfl⟩
set_option maxHeartbeats 1000000 in
theorem none_tnil (w : World) : Calls Tryd.prog 32 #[.pointer none] w fun e w' => e = .returned (.bool true) ∧ w' = w := by
  go_enter Tryd.func32, Tryd.ntmps32
  go_wp2
  go_ret
  exact ⟨rfl, rfl⟩
set_option maxHeartbeats 1000000 in
theorem asked_any {B tb : Nat} {ds : List Dig} {w : World} (h : TreeAt B w tb ds) (i : Int) : Calls Tryd.prog 34 #[.pointer (some ⟨tb, 0, none⟩), .int .i64 i] w fun e w' => e = .returned (.int .i64 (if thereB i ds.length then 0 else 4)) ∧ w' = w := by
  have hnn := none_tree h
  obtain ⟨h0, h16, _, v, hv, ho⟩ := h
  obtain ⟨a, c, rfl⟩ := ho.slice
  have c1 := hv.one
  cases ht : thereB i ds.length with
  | true =>
    go_enter Tryd.func34, Tryd.ntmps34
    go_wp2_with (first
      | (go_at_call 32; refine hnn.mono ?_; rintro e w' ⟨rfl, hw⟩; obtain rfl := hw.symm)
      | (go_at_call 35; refine (there_any _ _ _).mono ?_; rintro e w' ⟨rfl, hw⟩; obtain rfl := hw.symm))
    go_ret
    exact ⟨rfl, rfl⟩
  | false =>
    go_enter Tryd.func34, Tryd.ntmps34
    go_wp2_with (first
      | (go_at_call 32; refine hnn.mono ?_; rintro e w' ⟨rfl, hw⟩; obtain rfl := hw.symm)
      | (go_at_call 35; refine (there_any _ _ _).mono ?_; rintro e w' ⟨rfl, hw⟩; obtain rfl := hw.symm))
    go_ret
    exact ⟨rfl, rfl⟩
set_option maxHeartbeats 1000000 in
theorem asked_nil (i : Int) (w : World) : Calls Tryd.prog 34 #[.pointer none, .int .i64 i] w fun e w' => e = .returned (.int .i64 1) ∧ w' = w := by
  go_enter Tryd.func34, Tryd.ntmps34
  go_wp2_with (go_at_call 32; refine (none_tnil _).mono ?_; rintro e w' ⟨rfl, hw⟩; obtain rfl := hw.symm)
  go_ret
  exact ⟨rfl, rfl⟩
set_option maxHeartbeats 1000000 in
theorem len_tree {B tb : Nat} {ds : List Dig} {w : World} (h : TreeAt B w tb ds) : Calls Tryd.prog 21 #[.pointer (some ⟨tb, 0, none⟩)] w fun e w' => e = .returned (.int .i64 (ds.length : Int)) ∧ w' = w := by
  have hnn := none_tree h
  obtain ⟨h0, h16, _, v, hv, ho⟩ := h
  obtain ⟨a, c, rfl⟩ := ho.slice
  have c1 := hv.one
  go_enter Tryd.func21, Tryd.ntmps21
  go_wp2_with (go_at_call 32; refine hnn.mono ?_; rintro e w' ⟨rfl, hw⟩; obtain rfl := hw.symm)
  go_ret
  exact ⟨rfl, rfl⟩
set_option maxHeartbeats 1000000 in
theorem len_tnil (w : World) : Calls Tryd.prog 21 #[.pointer none] w fun e w' => e = .returned (.int .i64 0) ∧ w' = w := by
  go_enter Tryd.func21, Tryd.ntmps21
  go_wp2_with (go_at_call 32; refine (none_tnil _).mono ?_; rintro e w' ⟨rfl, hw⟩; obtain rfl := hw.symm)
  go_ret
  exact ⟨rfl, rfl⟩
set_option maxHeartbeats 1000000 in
theorem trows_any (v : Value) (p : Option Addr) (hp : v = .pointer p) (w : World) : Calls Tryd.prog 19 #[v] w fun e w' => e = .returned (.func (.func 37) #[] #[.pointer (some ⟨w.heap.size, 0, none⟩)]) ∧ w' = w.alloc (.cells #[v] 24) := by
  subst hp
  go_enter Tryd.func19, Tryd.ntmps19
  go_wp2
  go_ret
  exact ⟨rfl, rfl⟩
end Go.Proofs.YtcmkjgodgocdfaaDoor
