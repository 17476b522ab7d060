/-
  What owns its words has them.
-/
import Derived.Test.YtmmgaonlmpajbacGreatRefWords
import Derived.Test.YtmmgaonlmpajbacGreatTurnA
namespace Go.Proofs.YtmmgaonlmpajbacGreat
open Go.RowKit

theorem wds_at : ∀ (l : List Wd) (i : Nat) (x : Wd), l[i]? = some x → ∀ j, j < 6 → (wdsCells l)[i * 6 + j]? = (wdCells x)[j]?
  | [], i, x, h, j, hj => by simp at h
  | a :: l, 0, x, h, j, hj => by
    obtain rfl : a = x := by simpa using h
    show (wdCells a ++ wdsCells l)[0 * 6 + j]? = _
    rw [List.getElem?_append_left (by show 0 * 6 + j < 6; omega), Nat.zero_mul, Nat.zero_add]
  | a :: l, i + 1, x, h, j, hj => by
    show (wdCells a ++ wdsCells l)[(i + 1) * 6 + j]? = _
    rw [List.getElem?_append_right (by show 6 ≤ _; omega)]
    show (wdsCells l)[(i + 1) * 6 + j - 6]? = _
    rw [show (i + 1) * 6 + j - 6 = i * 6 + j by omega]
    exact wds_at l i x (by simpa using h) j hj

theorem own_words {W : World} {base : Nat} {q : Value} {ws : List Wd} (h : W.ownsRow base 36 6 q ws.length (wdsCells ws)) : Words W q ws := by
  rcases h.2 with ⟨rfl, h0⟩ | ⟨g, cap, cur, rfl, _, hh, _, _, hs, ht⟩
  · exact Or.inl ⟨List.eq_nil_of_length_eq_zero h0, none, 0, rfl⟩
  · refine Or.inr ⟨g, 0, cap, rfl, fun i x hx => ?_⟩
    have hB : Blk W g cur 36 := hh
    have hi : i < ws.length := by
      by_cases hlt : i < ws.length
      · exact hlt
      · rw [List.getElem?_eq_none (by omega)] at hx; cases hx
    have key : ∀ j, j < 6 → ∀ v, (wdCells x)[j]? = some v → W.cell? ⟨g, 0 + i * 6 + j, none⟩ = some v := fun j hj v hv => by
      rw [hB.cell]
      have h1 : (cur.toList.take (ws.length * 6))[i * 6 + j]? = some v := by rw [ht, wds_at ws i x hx j hj, hv]
      rw [List.getElem?_take, if_pos (by omega), Array.getElem?_toList] at h1
      rw [Nat.zero_add]; exact h1
    exact ⟨key 0 (by omega) _ rfl, key 1 (by omega) _ rfl, key 2 (by omega) _ rfl, key 3 (by omega) _ rfl, key 4 (by omega) _ rfl, key 5 (by omega) _ rfl⟩
end Go.Proofs.YtmmgaonlmpajbacGreat
