/-
  What the document's own answer says: SameWords of lists that are alike.
-/
import Derived.Test.YtmmgaonlmpajbacGreatNodeB
import Derived.Test.YtmmgaonlmpajbacGreatPlainN
namespace Go.Proofs.YtmmgaonlmpajbacGreat
open Go.RowKit

/-- A slice of words: its value, and where they lie. -/
def Words (W : World) (q : Value) (l : List Wd) : Prop :=
  (l = [] ∧ ∃ a cap, q = .slice a 0 cap) ∨ ∃ b o cap, q = .slice (some ⟨b, o, none⟩) l.length cap ∧ ∀ i (x : Wd), l[i]? = some x →
    W.cell? ⟨b, o + i * 6, none⟩ = some (.int .i64 x.k) ∧ W.cell? ⟨b, o + i * 6 + 1, none⟩ = some (.int .i64 x.f) ∧ W.cell? ⟨b, o + i * 6 + 2, none⟩ = some (.int .i64 x.h) ∧ W.cell? ⟨b, o + i * 6 + 3, none⟩ = some (.int .i64 x.r) ∧ W.cell? ⟨b, o + i * 6 + 4, none⟩ = some (.int .i64 x.v) ∧ W.cell? ⟨b, o + i * 6 + 5, none⟩ = some (.int .i64 x.x)

theorem Words.len {W : World} {q : Value} {l : List Wd} (h : Words W q l) : ∃ a cap, q = .slice a l.length cap := by
  rcases h with ⟨rfl, a, cap, rfl⟩ | ⟨b, o, cap, rfl, _⟩
  · exact ⟨a, cap, rfl⟩
  · exact ⟨_, cap, rfl⟩
theorem cell_kept {W W' : World} {b o : Nat} {v : Value} (h : W.cell? ⟨b, o, none⟩ = some v) (hb : Below W.heap.size W W') : W'.cell? ⟨b, o, none⟩ = some v := by
  rw [(bcell hb).1 b o (World.block_lt_of_cell? W _ h)]; exact h
theorem Words.keep {W W' : World} {q : Value} {l : List Wd} (h : Words W q l) (hb : Below W.heap.size W W') : Words W' q l := by
  rcases h with ⟨rfl, a, cap, rfl⟩ | ⟨b, o, cap, rfl, hc⟩
  · exact Or.inl ⟨rfl, a, cap, rfl⟩
  · refine Or.inr ⟨b, o, cap, rfl, fun i x hx => ?_⟩
    obtain ⟨h0, h1, h2, h3, h4, h5⟩ := hc i x hx
    exact ⟨cell_kept h0 hb, cell_kept h1 hb, cell_kept h2 hb, cell_kept h3 hb, cell_kept h4 hb, cell_kept h5 hb⟩
theorem Words.lies {W : World} {q : Value} {l : List Wd} (h : Words W q l) {i : Nat} {x : Wd} (hx : l[i]? = some x) : ∃ b o cap, q = .slice (some ⟨b, o, none⟩) l.length cap ∧
    W.cell? ⟨b, o + i * 6, none⟩ = some (.int .i64 x.k) ∧ W.cell? ⟨b, o + i * 6 + 1, none⟩ = some (.int .i64 x.f) ∧ W.cell? ⟨b, o + i * 6 + 2, none⟩ = some (.int .i64 x.h) ∧ W.cell? ⟨b, o + i * 6 + 3, none⟩ = some (.int .i64 x.r) ∧ W.cell? ⟨b, o + i * 6 + 4, none⟩ = some (.int .i64 x.v) ∧ W.cell? ⟨b, o + i * 6 + 5, none⟩ = some (.int .i64 x.x) := by
  rcases h with ⟨rfl, _⟩ | ⟨b, o, cap, rfl, hc⟩
  · simp at hx
  · exact ⟨b, o, cap, rfl, hc i x hx⟩

theorem eq_word (k f h r v x : Int) (W : World) :
    Sem.run Tryz.prog (Op.equalIn 10000 36 (.agg #[.int .i64 k, .int .i64 f, .int .i64 h, .int .i64 r, .int .i64 v, .int .i64 x]) (.agg #[.int .i64 k, .int .i64 f, .int .i64 h, .int .i64 r, .int .i64 v, .int .i64 x])) W = .ok true W := by
  rw [run_equalIn_struct (P := Tryz.prog) W 9999 36 _ _ (by kernel_rfl) (by kernel_rfl)]
  simp [Program.fieldsOf, Tryz.underlying36, Op.eqFields, go_sem, Tryz.underlying3]

end Go.Proofs.YtmmgaonlmpajbacGreat
