/-
  Votes and sheets that came in by value, as plain numbers.
-/
import Derived.Test.YtcdagfiinneabaaRefCount
import Derived.ProofKit
import Derived.OpenShut
import Derived.ShutString
import Derived.ChangeOld
import Derived.Below
namespace Go.Proofs.Ytcdagfiinneabaa
open Go.ChangeShapes Go.WideShapes Go.ChangeAt Go.RowKit

theorem at_of_take {l : List Value} {a : Nat} {x : Value} (h : (l.drop a).take 1 = [x]) : l[a]? = some x := by
  have := congrArg (fun m : List Value => m[0]?) h
  simpa [List.getElem?_take, List.getElem?_drop] using this

def intAt (C : Array Value) (j : Nat) : Int := match C[j]? with
  | some (.int _ n) => n
  | _ => 0
def boolAt (C : Array Value) (j : Nat) : Bool := match C[j]? with
  | some (.bool b) => b
  | _ => false

section
variable {H : Type} {enc : TypeId × Value → H} {w : World} {base : Nat} {spare : Nat → Bool} {held : Bool}

/-- Votes that are read: each of the four is a number of 64 bits. -/
theorem votes_cells {fuel : Nat} {cs : List Value} {x : DataW H × List MemPlace} (h : DataW.trod enc Try.prog w base spare held fuel 36 cs = some x) :
    cs.length = 4 ∧ ∀ i, i < 4 → ∃ n, cs[i]? = some (.int .i64 n) ∧ (Lit.int .i64 n).wf = true := by
  obtain ⟨xs, m, _, _, hl, hn, hx⟩ := DataW.trod_array Try.underlying36 h
  refine ⟨by rw [hl]; kernel_rfl, ?_⟩
  intro i hi
  have h1 := hx i hi
  rw [show Try.prog.cellsOf 3 = 1 by kernel_rfl, Nat.mul_one] at h1
  have hsome : xs[i]? = some xs[i] := List.getElem?_eq_getElem (by omega)
  rw [hsome] at h1
  obtain ⟨n, e, _, hw⟩ := DataW.trod_int Try.underlying3 h1
  exact ⟨n, at_of_take e, hw⟩

theorem call_cells {fuel : Nat} {cs : List Value} {x : DataW H × List MemPlace} (h : DataW.trod enc Try.prog w base spare held fuel 45 cs = some x) :
    (∃ b, cs[0]? = some (.bool b)) ∧ (∃ n, cs[1]? = some (.int .i64 n) ∧ (Lit.int .i64 n).wf = true) ∧ (∃ n, cs[2]? = some (.int .i64 n) ∧ (Lit.int .i64 n).wf = true) := by
  obtain ⟨xs, n, _, _, hl, hlen, hfs⟩ := DataW.trod_struct Try.underlying45 h
  match xs, hlen with
  | [y0, y1, y2], _ =>
    have g0 : DataW.trod enc Try.prog w base spare held n 4 ((cs.drop 0).take (Try.prog.cellsOf 4)) = some y0 := hfs 0 _ rfl
    have g1 : DataW.trod enc Try.prog w base spare held n 3 ((cs.drop 1).take (Try.prog.cellsOf 3)) = some y1 := hfs 1 _ rfl
    have g2 : DataW.trod enc Try.prog w base spare held n 3 ((cs.drop 2).take (Try.prog.cellsOf 3)) = some y2 := hfs 2 _ rfl
    rw [show Try.prog.cellsOf 4 = 1 by kernel_rfl] at g0
    rw [show Try.prog.cellsOf 3 = 1 by kernel_rfl] at g1 g2
    obtain ⟨b, e0, _⟩ := DataW.trod_bool Try.underlying4 g0
    obtain ⟨p, e1, _, w1⟩ := DataW.trod_int Try.underlying3 g1
    obtain ⟨q, e2, _, w2⟩ := DataW.trod_int Try.underlying3 g2
    exact ⟨⟨b, at_of_take e0⟩, ⟨p, at_of_take e1, w1⟩, ⟨q, at_of_take e2, w2⟩⟩

theorem rows_cells {fuel : Nat} {cs : List Value} {x : DataW H × List MemPlace} (h : DataW.trod enc Try.prog w base spare held fuel 47 cs = some x) :
    ∀ r i, r < 6 → i < 4 → ∃ n, cs[r * 4 + i]? = some (.int .i64 n) ∧ (Lit.int .i64 n).wf = true := by
  obtain ⟨xs, m, _, _, hl, hn, hx⟩ := DataW.trod_array Try.underlying47 h
  intro r i hr hi
  have h1 := hx r hr
  rw [show Try.prog.cellsOf 36 = 4 by kernel_rfl] at h1
  have hsome : xs[r]? = some xs[r] := List.getElem?_eq_getElem (by omega)
  rw [hsome] at h1
  obtain ⟨_, hv⟩ := votes_cells h1
  obtain ⟨n, e, hw⟩ := hv i hi
  rw [List.getElem?_take, if_pos hi, List.getElem?_drop] at e
  exact ⟨n, e, hw⟩

theorem calls_cells {fuel : Nat} {cs : List Value} {x : DataW H × List MemPlace} (h : DataW.trod enc Try.prog w base spare held fuel 46 cs = some x) :
    ∀ r, r < 6 → (∃ b, cs[r * 3]? = some (.bool b)) ∧ (∃ n, cs[r * 3 + 1]? = some (.int .i64 n) ∧ (Lit.int .i64 n).wf = true) ∧ (∃ n, cs[r * 3 + 2]? = some (.int .i64 n) ∧ (Lit.int .i64 n).wf = true) := by
  obtain ⟨xs, m, _, _, hl, hn, hx⟩ := DataW.trod_array Try.underlying46 h
  intro r hr
  have h1 := hx r hr
  rw [show Try.prog.cellsOf 45 = 3 by kernel_rfl] at h1
  have hsome : xs[r]? = some xs[r] := List.getElem?_eq_getElem (by omega)
  rw [hsome] at h1
  obtain ⟨⟨b, e0⟩, ⟨p, e1, w1⟩, ⟨q, e2, w2⟩⟩ := call_cells h1
  rw [List.getElem?_take, if_pos (by omega), List.getElem?_drop] at e0 e1 e2
  exact ⟨⟨b, e0⟩, ⟨p, e1, w1⟩, ⟨q, e2, w2⟩⟩

theorem okWide_arr {P : Program} {W : World} {r : Reach} {b0 : Nat} {t e : TypeId} {n : Nat} {v : Value} (ht : P.underlying t = some (.array n e)) (h : Value.okWide P W r b0 t v) : ∃ cs, v = .agg cs ∧ cs.size = P.cellsOf t := by
  simp only [Value.okWide, ht] at h
  obtain ⟨cs, h1, h2, _⟩ := h
  exact ⟨cs, h1, h2⟩

theorem open_votes {r : Reach} {b0 : Nat} {u : Value} {d : DataW H} {p : List MemPlace} (hv : Value.okWide Try.prog w r b0 36 u) (h : DataW.Trod enc Try.prog w base spare held 36 u d p) :
    ∃ V, u = .agg (vcells V) ∧ VBd V := by
  obtain ⟨cs, rfl, hsz⟩ := okWide_arr Try.underlying36 hv
  obtain ⟨fuel, hf⟩ := h
  obtain ⟨hl, hc⟩ := votes_cells hf
  have hc' : ∀ i, i < 4 → ∃ n, cs[i]? = some (.int .i64 n) ∧ (Lit.int .i64 n).wf = true := fun i hi => by simpa [Value.cells] using hc i hi
  refine ⟨intAt cs, ?_, ?_⟩
  · congr 1
    apply Array.ext_getElem?
    intro i
    by_cases hi : i < 4
    · obtain ⟨n, e, _⟩ := hc' i hi
      rw [vcells_at _ i hi, e]; simp [intAt, e]
    · rw [Array.getElem?_eq_none (by simp [Value.cells] at hl; omega), Array.getElem?_eq_none (by simp [vcells]; omega)]
  · intro i hi
    obtain ⟨n, e, hw⟩ := hc' i hi
    have : intAt cs i = n := by simp [intAt, e]
    rw [this]; exact bounds_i64 hw

/-- Each number of a sheet is one of 64 bits. -/
structure SBd (S : Sh) : Prop where
  val : ∀ r, r < 6 → -9223372036854775808 ≤ S.val r ∧ S.val r ≤ 9223372036854775807
  vld : ∀ r, r < 6 → -9223372036854775808 ≤ S.vld r ∧ S.vld r ≤ 9223372036854775807
  wi : ∀ r, r < 6 → VBd (S.wi r)
  pr : ∀ r, r < 6 → VBd (S.pr r)

/-- The sheet of 66 cells. -/
def shOf (C : Array Value) : Sh := ⟨fun r => boolAt C (r * 3), fun r => intAt C (r * 3 + 1), fun r => intAt C (r * 3 + 2), fun r i => intAt C (18 + r * 4 + i), fun r i => intAt C (42 + r * 4 + i)⟩

theorem open_sheet {r : Reach} {b0 : Nat} {u : Value} {d : DataW H} {p : List MemPlace} (hv : Value.okWide Try.prog w r b0 49 u) (h : DataW.Trod enc Try.prog w base spare held 49 u d p) :
    ∃ S : Sh, u = .agg S.cells ∧ SBd S := by
  obtain ⟨cs, rfl, hsz⟩ := okWide_struct Try.underlying49 hv
  rw [show Try.prog.cellsOf 49 = 66 by kernel_rfl] at hsz
  obtain ⟨fuel, hf⟩ := h
  obtain ⟨xs, n, _, _, hl, hlen, hfs⟩ := DataW.trod_struct Try.underlying49 hf
  match xs, hlen with
  | [y0, y1, y2], _ =>
    have g0 : DataW.trod enc Try.prog w base spare held n 46 ((cs.toList.drop 0).take (Try.prog.cellsOf 46)) = some y0 := hfs 0 _ rfl
    have g1 : DataW.trod enc Try.prog w base spare held n 47 ((cs.toList.drop 18).take (Try.prog.cellsOf 47)) = some y1 := hfs 1 _ rfl
    have g2 : DataW.trod enc Try.prog w base spare held n 47 ((cs.toList.drop 42).take (Try.prog.cellsOf 47)) = some y2 := hfs 2 _ rfl
    rw [show Try.prog.cellsOf 46 = 18 by kernel_rfl] at g0
    rw [show Try.prog.cellsOf 47 = 24 by kernel_rfl] at g1 g2
    have c0 := calls_cells g0
    have c1 := rows_cells g1
    have c2 := rows_cells g2
    have k0 : ∀ r, r < 6 → (∃ b, cs[r * 3]? = some (.bool b)) ∧ (∃ n, cs[r * 3 + 1]? = some (.int .i64 n) ∧ (Lit.int .i64 n).wf = true) ∧ (∃ n, cs[r * 3 + 2]? = some (.int .i64 n) ∧ (Lit.int .i64 n).wf = true) := fun r hr => by
      have := c0 r hr
      simp only [List.drop_zero] at this
      rw [List.getElem?_take, List.getElem?_take, List.getElem?_take, if_pos (by omega), if_pos (by omega), if_pos (by omega)] at this
      simpa using this
    have k1 : ∀ r i, r < 6 → i < 4 → ∃ n, cs[18 + r * 4 + i]? = some (.int .i64 n) ∧ (Lit.int .i64 n).wf = true := fun r i hr hi => by
      have := c1 r i hr hi
      rw [List.getElem?_take, if_pos (by omega), List.getElem?_drop] at this
      simpa [Nat.add_assoc] using this
    have k2 : ∀ r i, r < 6 → i < 4 → ∃ n, cs[42 + r * 4 + i]? = some (.int .i64 n) ∧ (Lit.int .i64 n).wf = true := fun r i hr hi => by
      have := c2 r i hr hi
      rw [List.getElem?_take, if_pos (by omega), List.getElem?_drop] at this
      simpa [Nat.add_assoc] using this
    refine ⟨shOf cs, ?_, ⟨?_, ?_, ?_, ?_⟩⟩
    · congr 1
      apply Array.ext_getElem?
      intro j
      by_cases hj : j < 66
      · rw [cells_at _ j hj]
        have hcase : (∃ r, r < 6 ∧ j = r * 3) ∨ (∃ r, r < 6 ∧ j = r * 3 + 1) ∨ (∃ r, r < 6 ∧ j = r * 3 + 2) ∨ (∃ r i, r < 6 ∧ i < 4 ∧ j = 18 + r * 4 + i) ∨ (∃ r i, r < 6 ∧ i < 4 ∧ j = 42 + r * 4 + i) := by
          by_cases h1 : j < 18
          · have : j % 3 = 0 ∨ j % 3 = 1 ∨ j % 3 = 2 := by omega
            rcases this with h3 | h3 | h3
            · exact Or.inl ⟨j / 3, by omega, by omega⟩
            · exact Or.inr (Or.inl ⟨j / 3, by omega, by omega⟩)
            · exact Or.inr (Or.inr (Or.inl ⟨j / 3, by omega, by omega⟩))
          · by_cases h2 : j < 42
            · exact Or.inr (Or.inr (Or.inr (Or.inl ⟨(j - 18) / 4, (j - 18) % 4, by omega, by omega, by omega⟩)))
            · exact Or.inr (Or.inr (Or.inr (Or.inr ⟨(j - 42) / 4, (j - 42) % 4, by omega, by omega, by omega⟩)))
        rcases hcase with ⟨r, hr, rfl⟩ | ⟨r, hr, rfl⟩ | ⟨r, hr, rfl⟩ | ⟨r, i, hr, hi, rfl⟩ | ⟨r, i, hr, hi, rfl⟩
        · obtain ⟨⟨b, e⟩, _, _⟩ := k0 r hr
          rw [cellAt_is _ r hr, e]; simp [shOf, boolAt, e]
        · obtain ⟨_, ⟨n, e, _⟩, _⟩ := k0 r hr
          rw [cellAt_val _ r hr, e]; simp [shOf, intAt, e]
        · obtain ⟨_, _, ⟨n, e, _⟩⟩ := k0 r hr
          rw [cellAt_vld _ r hr, e]; simp [shOf, intAt, e]
        · obtain ⟨n, e, _⟩ := k1 r i hr hi
          rw [cellAt_wi _ r i hr hi, e]; simp [shOf, intAt, e]
        · obtain ⟨n, e, _⟩ := k2 r i hr hi
          rw [cellAt_pr _ r i hr hi, e]; simp [shOf, intAt, e]
      · rw [Array.getElem?_eq_none (by omega), Array.getElem?_eq_none (by rw [cells_size]; omega)]
    · intro r hr
      obtain ⟨_, ⟨n, e, hw⟩, _⟩ := k0 r hr
      have : (shOf cs).val r = n := by simp [shOf, intAt, e]
      rw [this]; exact bounds_i64 hw
    · intro r hr
      obtain ⟨_, _, ⟨n, e, hw⟩⟩ := k0 r hr
      have : (shOf cs).vld r = n := by simp [shOf, intAt, e]
      rw [this]; exact bounds_i64 hw
    · intro r hr i hi
      obtain ⟨n, e, hw⟩ := k1 r i hr hi
      have : (shOf cs).wi r i = n := by simp [shOf, intAt, e]
      rw [this]; exact bounds_i64 hw
    · intro r hr i hi
      obtain ⟨n, e, hw⟩ := k2 r i hr hi
      have : (shOf cs).pr r i = n := by simp [shOf, intAt, e]
      rw [this]; exact bounds_i64 hw
end
end Go.Proofs.Ytcdagfiinneabaa
