/- A region that does not draw, in a round of a range over a function: it is enough to walk it as everywhere. What another block's change leaves of a row. -/
import Derived.Test.YtcmkjgodgocdfaaDoorZq4
import Derived.Test.YtcmkjgodgocdfaaDoorZq3
namespace Go.Proofs.YtcmkjgodgocdfaaDoor
open Go.RowKit
variable {n l : Nat} {P : Program} {ops : Array Oper} {Q : Exit → Act → World → Prop}

theorem wpList_round : ∀ (L : List Oper) (a : Act) (w : World), (∀ o ∈ L, ∀ c, o.op ≠ .defer c) → wpList P ops (onlyN Q) L a w → wpListIn (Fence.wide.inRound l) n P ops Q L a w
  | [], _, _, _, h => h.2
  | o :: L, a, w, hp, h => by
    unfold wpList at h
    unfold wpListIn
    by_cases hw : Region.wanted o (yielded ops a.tmps) = true
    · rw [if_pos hw] at h ⊢
      rcases h with h | ⟨_, _, _, h, _⟩
      · exact op_round (hp o (List.mem_cons_self ..)) (Oper.wp_mono (fun a w h => wpList_round L a w (fun o ho => hp o (List.mem_cons_of_mem _ ho)) h) h)
      · exact absurd h (by simp)
    · rw [if_neg hw] at h ⊢
      exact ⟨fun _ _ => trivial, wpList_round L _ w (fun o ho => hp o (List.mem_cons_of_mem _ ho)) h⟩
theorem wpIn_round_region {id : Nat} {L : List Oper} {a : Act} {w : World} (hp : noDefer L.toArray = true) (h : wpList P L.toArray (onlyN Q) L a w) : (Code.region id L.toArray false).wpIn (Fence.wide.inRound l) n P Q a w :=
  wpIn_region_lit (wpList_round L a w (fun o ho c => by
    obtain ⟨i, hi⟩ := List.mem_iff_getElem?.1 ho
    exact noDefer_at hp i o (by simpa using hi) c) h)
theorem own_exNe {base e size n b : Nat} {w w' : World} {v : Value} {xs : List Value} (h : w.ownsRow base e size v n xs) (k : Ex b w w') (hb : v.ownBlock ≠ some b) : w'.ownsRow base e size v n xs := by
  refine ⟨h.1, ?_⟩
  rcases h.2 with hn | ⟨g, cap, cur, rfl, hgb, hg, rest⟩
  · exact .inl hn
  · exact .inr ⟨g, cap, cur, rfl, hgb, (k.block g (Array.getElem?_eq_some_iff.1 hg).1 (fun e => hb (by rw [← e]; rfl))).trans hg, rest⟩
theorem OwnD.exNe {base b : Nat} {w w' : World} {v : Value} {ds : List Dig} (h : OwnD base w v ds) (k : Ex b w w') (hb : v.ownBlock ≠ some b) : OwnD base w' v ds := ⟨h.1, own_exNe h.2 k hb⟩
end Go.Proofs.YtcmkjgodgocdfaaDoor
