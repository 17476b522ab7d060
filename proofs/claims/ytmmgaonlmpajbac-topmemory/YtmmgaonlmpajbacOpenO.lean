/-
  A slice of numbers that came in.
-/
import Derived.Test.YtmmgaonlmpajbacOpenA
namespace Go.Proofs.Ytmmgaonlmpajbac
open Go.ChangeShapes Go.WideShapes Go.ChangeAt Go.RowKit

section
variable {H : Type} {enc : TypeId × Value → H} {w : World} {base : Nat} {spare : Nat → Bool} {held : Bool}
theorem open_order {u : Value} {d : DataW H} {p : List MemPlace} (h : DataW.Trod enc Try.prog w base spare held 59 u d p) (hu : u.cells = #[u]) :
    ∃ l : List Int, Ints w u l ∧ (l = [] ∨ ∃ e s, d = .slice e s ∧ l.length ≤ e.length) := by
  obtain ⟨fuel, hf⟩ := h
  rw [hu] at hf
  rcases open_ints Try.underlying59 Try.underlying3 (by kernel_rfl) hf with ⟨e, _⟩ | ⟨a, len, cap, zs, e, _, hl1, _, hl2, hy, hc, _⟩
  · have e' : u = .slice none 0 0 := by simpa using e
    exact ⟨[], Or.inl ⟨rfl, 0, e'⟩, Or.inl rfl⟩
  · have e' : u = .slice (some a) len cap := by simpa using e
    have hle : len ≤ zs.length := by rw [hl2]; split <;> omega
    refine ⟨zs.take len, Or.inr ⟨a, cap, by rw [e', List.length_take, Nat.min_eq_left hle], fun i v hv => ?_⟩, Or.inr ⟨_, _, congrArg Prod.fst hy, by simp [lits]⟩⟩
    have hi : i < len := by
      by_cases hlt : i < len
      · exact hlt
      · rw [List.getElem?_take, if_neg hlt] at hv; cases hv
    rw [List.getElem?_take, if_pos hi] at hv
    rw [hc i (by omega), List.getD_eq_getElem?_getD, hv]; rfl
theorem acts_cap {u : Value} {d : DataW H} {p : List MemPlace} (h : DataW.Trod enc Try.prog w base spare held 22 u d p) (hu : u.cells = #[u]) {l : List Ac} (hl : ActsAt w u l) : ∃ a c, u = .slice a l.length c ∧ l.length ≤ c := by
  obtain ⟨fuel, hf⟩ := h
  rw [hu] at hf
  obtain ⟨a', c', e'⟩ := hl.len
  rcases DataW.trod_slice Try.underlying22 hf with ⟨h0, _⟩ | ⟨a, len, cap, elems, rest, n, _, hc, hd, hb, hle, _⟩
  · have e : u = .slice none 0 0 := by simpa using h0
    rw [e'] at e
    injection e with e1 e2 e3
    exact ⟨a', c', e', by omega⟩
  · have e : u = .slice (some a) len cap := by simpa using hc
    rw [e'] at e
    injection e with e1 e2 e3
    exact ⟨a', c', e', by omega⟩
end
end Go.Proofs.Ytmmgaonlmpajbac
