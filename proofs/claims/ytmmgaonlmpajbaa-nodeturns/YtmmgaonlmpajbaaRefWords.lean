/-
  What the document's own answer says: SameWords of lists that are alike.
-/
import Derived.Test.YtmmgaonlmpajbaaNodeB
import Derived.Test.YtmmgaonlmpajbaaPlainN
namespace Go.Proofs.Ytmmgaonlmpajbaa
open Go.RowKit

/-- A slice of words: its value, and where they lie. -/
def Words (W : World) (q : Value) (l : List Wd) : Prop :=
  (l = [] ∧ ∃ a cap, q = .slice a 0 cap) ∨ ∃ b o cap, q = .slice (some ⟨b, o, none⟩) l.length cap ∧ ∀ i (x : Wd), l[i]? = some x →
    W.cell? ⟨b, o + i * 6, none⟩ = some (.int .i64 x.k) ∧ W.cell? ⟨b, o + i * 6 + 1, none⟩ = some (.int .i64 x.f) ∧ W.cell? ⟨b, o + i * 6 + 2, none⟩ = some (.int .i64 x.h) ∧ W.cell? ⟨b, o + i * 6 + 3, none⟩ = some (.int .i64 x.r) ∧ W.cell? ⟨b, o + i * 6 + 4, none⟩ = some (.int .i64 x.v) ∧ W.cell? ⟨b, o + i * 6 + 5, none⟩ = some (.int .i64 x.x)

theorem Words.len {W : World} {q : Value} {l : List Wd} (h : Words W q l) : ∃ a cap, q = .slice a l.length cap := by
  rcases h with ⟨rfl, a, cap, rfl⟩ | ⟨b, o, cap, rfl, _⟩
  · exact ⟨a, cap, rfl⟩
  · exact ⟨_, cap, rfl⟩
theorem cell_kept {W W' : World} {b o : Nat} {v : Value} (h : W.cell? ⟨b, o, none⟩ = some v) (hb : Below W.heap.size W W') : W'.cell? ⟨b, o, none⟩ = some v := by
  rw [(bcell hb).1 b o (World.block_lt_of_cell? W _ h)]; exact h
theorem Words.keep {W W' : World} {q : Value} {l : List Wd} (h : Words W q l) (hb : Below W.heap.size W W') : Words W' q l := by
  rcases h with ⟨rfl, a, cap, rfl⟩ | ⟨b, o, cap, rfl, hc⟩
  · exact Or.inl ⟨rfl, a, cap, rfl⟩
  · refine Or.inr ⟨b, o, cap, rfl, fun i x hx => ?_⟩
    obtain ⟨h0, h1, h2, h3, h4, h5⟩ := hc i x hx
    exact ⟨cell_kept h0 hb, cell_kept h1 hb, cell_kept h2 hb, cell_kept h3 hb, cell_kept h4 hb, cell_kept h5 hb⟩
theorem Words.lies {W : World} {q : Value} {l : List Wd} (h : Words W q l) {i : Nat} {x : Wd} (hx : l[i]? = some x) : ∃ b o cap, q = .slice (some ⟨b, o, none⟩) l.length cap ∧
    W.cell? ⟨b, o + i * 6, none⟩ = some (.int .i64 x.k) ∧ W.cell? ⟨b, o + i * 6 + 1, none⟩ = some (.int .i64 x.f) ∧ W.cell? ⟨b, o + i * 6 + 2, none⟩ = some (.int .i64 x.h) ∧ W.cell? ⟨b, o + i * 6 + 3, none⟩ = some (.int .i64 x.r) ∧ W.cell? ⟨b, o + i * 6 + 4, none⟩ = some (.int .i64 x.v) ∧ W.cell? ⟨b, o + i * 6 + 5, none⟩ = some (.int .i64 x.x) := by
  rcases h with ⟨rfl, _⟩ | ⟨b, o, cap, rfl, hc⟩
  · simp at hx
  · exact ⟨b, o, cap, rfl, hc i x hx⟩

theorem eq_word (k f h r v x : Int) (W : World) :
    Sem.run Try.prog (Op.equalIn 10000 23 (.agg #[.int .i64 k, .int .i64 f, .int .i64 h, .int .i64 r, .int .i64 v, .int .i64 x]) (.agg #[.int .i64 k, .int .i64 f, .int .i64 h, .int .i64 r, .int .i64 v, .int .i64 x])) W = .ok true W := by
  rw [run_equalIn_struct (P := Try.prog) W 9999 23 _ _ (by kernel_rfl) (by kernel_rfl)]
  simp [Program.fieldsOf, Try.underlying23, Op.eqFields, go_sem, Try.underlying3]

set_option maxHeartbeats 2000000 in
theorem sameWords_alike (q q' : Value) (l : List Wd) (w : World) (hq : Words w q l) (hq2 : Words w q' l) (hl : l.length < 4611686018427387904) :
    Calls Try.prog 44 #[q, q'] w fun e w' => e = .returned (.bool true) ∧ Below w.heap.size w w' := by
  have heq := eq_word
  obtain ⟨qa, qc, hqv⟩ := hq.len
  obtain ⟨pa, pc, hpv⟩ := hq2.len
  subst hqv hpv
  go_enter Try.func44, Try.ntmps44
  go_wp2
  go_loopw [13] (fun i W => ∃ j : Nat, j ≤ l.length ∧ i = .int .i64 (j : Int) ∧ Below w.heap.size w W) (fun i _ => l.length - (intOf i).toNat)
  case atStart => exact ⟨0, by omega, rfl, Below.refl _ _⟩
  case round =>
    obtain ⟨j, hj, rfl, hB⟩ := hrel
    by_cases hlt : j < l.length
    · have hx : l[j]? = some l[j] := List.getElem?_eq_getElem hlt
      obtain ⟨b, o, cap, hv, a0, a1, a2, a3, a4, a5⟩ := (hq.keep hB).lies hx
      injection hv with hv1 hv2 hv3
      subst hv1 hv3
      obtain ⟨b', o', cap', hv', b0, b1, b2, b3, b4, b5⟩ := (hq2.keep hB).lies hx
      injection hv' with hv1 hv2 hv3
      subst hv1 hv3
      go_wp2
      go_quiet (fail)
      go_wp2
      go_roundw
      case rel => exact ⟨j + 1, by omega, by go_num, below_drewN2 hB _⟩
      case measure => simp [intOf]; omega
    · go_wp2
      go_ret
      exact ⟨rfl, hB⟩
end Go.Proofs.Ytmmgaonlmpajbaa
