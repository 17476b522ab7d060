/-
  The document's node at work, as it lies: its queue's row may lie ahead of it.
-/
import Derived.Test.YtmmgaonlmpajbacGreatTurnQ
namespace Go.Proofs.YtmmgaonlmpajbacGreat
open Go.RowKit

/-- The block g holds a node at work: its numbers; its queue's row, from bb on, is its own, and is not g; its words' row is its own. -/
structure Sr (bb : Nat) (w : World) (g : Nat) (t : TypeId) (who : Nat) (a : At) (q sd : Value) : Prop where
  blk : Blk w g (tcells (a.n.ni q) who sd) t
  own : w.ownsRow bb 3 1 q a.n.queue.length (a.n.queue.map (Value.int .i64))
  said : w.ownsRow (g + 1) 36 6 sd a.words.length (wdsCells a.words)
  le : bb ≤ g
  ap : q.ownBlock ≠ some g
theorem own_grown2 {W W' : World} {base g : Nat} {e : TypeId} {size : Nat} {v : Value} {n : Nat} {xs : List Value} (h : W.ownsRow base e size v n xs) (K : W.grownBy W' (some g)) (hg : v.ownBlock ≠ some g) : W'.ownsRow base e size v n xs := by
  refine ⟨h.1, ?_⟩
  rcases h.2 with h2 | ⟨g', cap, cur, hv, hb, hh, h3⟩
  · exact Or.inl h2
  · refine Or.inr ⟨g', cap, cur, hv, hb, ?_, h3⟩
    rw [K.block g' (Blk.lt (show Blk W g' cur e from hh)) (fun e => hg (by rw [hv]; simpa [Value.ownBlock] using e))]; exact hh
theorem Sr.below {bb : Nat} {W W' : World} {g who : Nat} {t : TypeId} {a : At} {q sd : Value} (H : Sr bb W g t who a q sd) (hb : Below W.heap.size W W') : Sr bb W' g t who a q sd :=
  ⟨H.blk.below hb, own_below H.own hb, own_below H.said hb, H.le, H.ap⟩
theorem Sr.drew {bb : Nat} {W : World} {g who : Nat} {t : TypeId} {a : At} {q sd : Value} (H : Sr bb W g t who a q sd) : Sr bb W.drew g t who a q sd := ⟨H.blk.drew, H.own, H.said, H.le, H.ap⟩
theorem Sr.lt {bb : Nat} {W : World} {g who : Nat} {t : TypeId} {a : At} {q sd : Value} (H : Sr bb W g t who a q sd) : g < W.heap.size := H.blk.lt
/-- One cell of the node is stored. -/
theorem Sr.put {bb : Nat} {W : World} {g who : Nat} {t : TypeId} {a : At} {q sd : Value} (H : Sr bb W g t who a q sd) {j : Nat} {v : Value} (n' : Nd) (hj : j < 282) (h : (a.n.ni q).cells.setIfInBounds j v = (n'.ni q).cells) (hq : n'.queue = a.n.queue) : Sr bb (W.setCell ⟨g, j, none⟩ v) g t who ⟨n', a.words⟩ q sd := by
  have B := H.blk.setCell j v
  rw [tcells_set h hj] at B
  refine ⟨B, ?_, own_grown H.said (grown_setCell _ _ _ _) (by omega), H.le, H.ap⟩
  show World.ownsRow _ _ _ _ _ n'.queue.length (n'.queue.map _)
  rw [hq]
  exact own_grown2 H.own (grown_setCell _ _ _ _) H.ap
theorem seen_rowR {bb : Nat} {W : World} {g who : Nat} {t : TypeId} {a : At} {q sd : Value} (H : Sr bb W g t who a q sd) :
    Sr bb (W.setCells g 7 [.bool false, .bool false, .bool false, .bool false, .bool false, .bool false]) g t who ⟨{ a.n with seen := fun _ => false }, a.words⟩ q sd := by
  refine ⟨?_, own_grown2 H.own (grown_setCells _ _ _ _) H.ap, own_grown H.said (grown_setCells _ _ _ _) (by omega), H.le, H.ap⟩
  refine H.blk.setMid _ _ (by rw [tcells_size]; simp) (fun k => ?_)
  have hl : ([.bool false, .bool false, .bool false, .bool false, .bool false, .bool false] : List Value).length = 6 := rfl
  rw [hl]
  by_cases c : 7 ≤ k ∧ k < 7 + 6
  · rw [if_pos c]
    obtain ⟨r, rfl⟩ : ∃ r, k = 7 + r := ⟨k - 7, by omega⟩
    rw [tcells_seen _ _ _ r (by omega), show 7 + r - 7 = r by omega]
    have hc : r = 0 ∨ r = 1 ∨ r = 2 ∨ r = 3 ∨ r = 4 ∨ r = 5 := by omega
    rcases hc with rfl | rfl | rfl | rfl | rfl | rfl <;> rfl
  · rw [if_neg c]
    by_cases c0 : k < 282
    · rw [tcells_lt _ _ _ _ c0, tcells_lt _ _ _ _ c0, ncells_at _ k c0, ncells_at _ k c0]
      congr 1
      by_cases c1 : k < 7
      · rw [ncell_num _ k c1, ncell_num _ k c1]; exact congrArg (Value.int .i64) (num_of _ _ rfl rfl rfl rfl rfl rfl rfl k c1)
      · have c2 : ¬ k < 13 := by omega
        unfold ncellAt
        rw [if_neg c1, if_neg c1, if_neg c2, if_neg c2]; rfl
    · by_cases c5 : k = 282
      · rw [c5, tcells_who, tcells_who]
      · by_cases c6 : k = 283
        · rw [c6, tcells_sd, tcells_sd]
        · rw [Array.getElem?_eq_none (by rw [tcells_size]; omega), Array.getElem?_eq_none (by rw [tcells_size]; omega)]
end Go.Proofs.YtmmgaonlmpajbacGreat
