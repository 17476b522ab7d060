/-
  Arrays of numbers, acts and lists of acts that came in, as plain numbers.
-/
import Derived.Test.YtmmgaonlmpajbacGreatNodeB
import Derived.Test.YtmmgaonlmpajbacGreatCPl
namespace Go.Proofs.YtmmgaonlmpajbacGreat
open Go.ChangeShapes Go.WideShapes Go.ChangeAt Go.RowKit
set_option maxRecDepth 100000

section
variable {H : Type} {enc : TypeId × Value → H} {w : World} {base : Nat} {spare : Nat → Bool} {held : Bool}

theorem four_cells {fuel : Nat} {cs : List Value} {x : DataW H × List MemPlace} (h : DataW.trod enc Tryz.prog w base spare held fuel 31 cs = some x) :
    cs.length = 4 ∧ ∀ i, i < 4 → ∃ n, cs[i]? = some (.int .i64 n) ∧ (Lit.int .i64 n).wf = true := by
  obtain ⟨xs, m, _, _, hl, hn, hx⟩ := DataW.trod_array Tryz.underlying31 h
  refine ⟨by rw [hl]; kernel_rfl, ?_⟩
  intro i hi
  have h1 := hx i hi
  rw [show Tryz.prog.cellsOf 3 = 1 by kernel_rfl, Nat.mul_one] at h1
  have hsome : xs[i]? = some xs[i] := List.getElem?_eq_getElem (by omega)
  rw [hsome] at h1
  obtain ⟨n, e, _, hw⟩ := DataW.trod_int Tryz.underlying3 h1
  exact ⟨n, at_of_take e, hw⟩

theorem open_four {r : Reach} {b0 : Nat} {u : Value} {d : DataW H} {p : List MemPlace} (hv : Value.okWide Tryz.prog w r b0 31 u) (h : DataW.Trod enc Tryz.prog w base spare held 31 u d p) :
    ∃ f : Nat → Int, u = .agg (four f) ∧ ∀ i, i < 4 → -9223372036854775808 ≤ f i ∧ f i ≤ 9223372036854775807 := by
  obtain ⟨cs, rfl, hsz⟩ := okWide_arr Tryz.underlying31 hv
  obtain ⟨fuel, hf⟩ := h
  obtain ⟨hl, hc⟩ := four_cells hf
  have hc' : ∀ i, i < 4 → ∃ n, cs[i]? = some (.int .i64 n) ∧ (Lit.int .i64 n).wf = true := fun i hi => by simpa [Value.cells] using hc i hi
  refine ⟨intAt cs, ?_, ?_⟩
  · congr 1
    apply Array.ext_getElem?
    intro i
    by_cases hi : i < 4
    · obtain ⟨n, e, _⟩ := hc' i hi
      rw [four_at _ i hi, e]; simp [intAt, e]
    · rw [Array.getElem?_eq_none (by simp [Value.cells] at hl; omega), Array.getElem?_eq_none (by simp [four]; omega)]
  · intro i hi
    obtain ⟨n, e, hw⟩ := hc' i hi
    have : intAt cs i = n := by simp [intAt, e]
    rw [this]; exact bounds_i64 hw

theorem open_sixteen {r : Reach} {b0 : Nat} {u : Value} {d : DataW H} {p : List MemPlace} (hv : Value.okWide Tryz.prog w r b0 80 u) (h : DataW.Trod enc Tryz.prog w base spare held 80 u d p) :
    ∃ l : Nat → Nat → Int, u = .agg (lcells l) := by
  obtain ⟨cs, rfl, hsz⟩ := okWide_arr Tryz.underlying80 hv
  rw [show Tryz.prog.cellsOf 80 = 16 by kernel_rfl] at hsz
  obtain ⟨fuel, hf⟩ := h
  obtain ⟨xs, m, _, _, hl, hn, hx⟩ := DataW.trod_array Tryz.underlying80 hf
  have key : ∀ i k, i < 4 → k < 4 → ∃ n, cs[i * 4 + k]? = some (.int .i64 n) := fun i k hi hk => by
    have h1 := hx i hi
    rw [show Tryz.prog.cellsOf 31 = 4 by kernel_rfl] at h1
    have hsome : xs[i]? = some xs[i] := List.getElem?_eq_getElem (by omega)
    rw [hsome] at h1
    obtain ⟨n, e, _⟩ := (four_cells h1).2 k hk
    rw [List.getElem?_take, if_pos hk, List.getElem?_drop] at e
    exact ⟨n, by simpa [Value.cells] using e⟩
  refine ⟨fun i k => intAt cs (i * 4 + k), ?_⟩
  congr 1
  apply Array.ext_getElem?
  intro j
  by_cases hj : j < 16
  · obtain ⟨n, e⟩ := key (j / 4) (j % 4) (by omega) (by omega)
    have ej : j / 4 * 4 + j % 4 = j := by omega
    have h1 := lcells_at (fun i k => intAt cs (i * 4 + k)) (j / 4) (j % 4) (by omega) (by omega)
    rw [ej] at e h1
    rw [h1, e]
    simp [intAt, e]
  · rw [Array.getElem?_eq_none (by omega), Array.getElem?_eq_none (by rw [lcells_size]; omega)]

/-- The act that fourteen cells hold. -/
def acOf (C : Array Value) : Ac := ⟨intAt C 0, intAt C 1, intAt C 2, intAt C 3, ⟨intAt C 4, intAt C 5, intAt C 6, intAt C 7, intAt C 8, intAt C 9⟩, fun i => intAt C (10 + i)⟩
theorem act_cells {fuel : Nat} {cs : List Value} {x : DataW H × List MemPlace} (h : DataW.trod enc Tryz.prog w base spare held fuel 38 cs = some x) : ∃ a : Ac, cs = (acArr a).toList := by
  obtain ⟨xs, n, _, _, hl, hlen, hfs⟩ := DataW.trod_struct Tryz.underlying38 h
  rw [show Tryz.prog.cellsOf 38 = 14 by kernel_rfl] at hl
  match xs, hlen with
  | [y0, y1, y2, y3, y4, y5], _ =>
    have g0 := int_at (show DataW.trod enc Tryz.prog w base spare held n 3 ((cs.drop 0).take (Tryz.prog.cellsOf 3)) = some y0 from hfs 0 _ rfl)
    have g1 := int_at (show DataW.trod enc Tryz.prog w base spare held n 3 ((cs.drop 1).take (Tryz.prog.cellsOf 3)) = some y1 from hfs 1 _ rfl)
    have g2 := int_at (show DataW.trod enc Tryz.prog w base spare held n 3 ((cs.drop 2).take (Tryz.prog.cellsOf 3)) = some y2 from hfs 2 _ rfl)
    have g3 := int_at (show DataW.trod enc Tryz.prog w base spare held n 3 ((cs.drop 3).take (Tryz.prog.cellsOf 3)) = some y3 from hfs 3 _ rfl)
    have g4 : DataW.trod enc Tryz.prog w base spare held n 36 ((cs.drop 4).take (Tryz.prog.cellsOf 36)) = some y4 := hfs 4 _ rfl
    have g5 : DataW.trod enc Tryz.prog w base spare held n 31 ((cs.drop 10).take (Tryz.prog.cellsOf 31)) = some y5 := hfs 5 _ rfl
    rw [show Tryz.prog.cellsOf 36 = 6 by kernel_rfl] at g4
    rw [show Tryz.prog.cellsOf 31 = 4 by kernel_rfl] at g5
    have k5 : ∀ i, i < 4 → ∃ n, cs[10 + i]? = some (.int .i64 n) := fun i hi => by
      obtain ⟨n, e, _⟩ := (four_cells g5).2 i hi
      rw [List.getElem?_take, if_pos hi, List.getElem?_drop] at e
      exact ⟨n, e⟩
    have k4 : ∀ i, i < 6 → ∃ n, cs[4 + i]? = some (.int .i64 n) := fun i hi => by
      obtain ⟨zs, m, _, _, _, hzl, hzs⟩ := DataW.trod_struct Tryz.underlying36 g4
      match zs, hzl with
      | [z0, z1, z2, z3, z4, z5], _ =>
        have e : ∃ n, ((cs.drop 4).take 6)[i]? = some (.int .i64 n) := by
          have : i = 0 ∨ i = 1 ∨ i = 2 ∨ i = 3 ∨ i = 4 ∨ i = 5 := by omega
          rcases this with rfl | rfl | rfl | rfl | rfl | rfl
          · exact int_at (show DataW.trod enc Tryz.prog w base spare held m 3 ((((cs.drop 4).take 6).drop 0).take (Tryz.prog.cellsOf 3)) = some z0 from hzs 0 _ rfl)
          · exact int_at (show DataW.trod enc Tryz.prog w base spare held m 3 ((((cs.drop 4).take 6).drop 1).take (Tryz.prog.cellsOf 3)) = some z1 from hzs 1 _ rfl)
          · exact int_at (show DataW.trod enc Tryz.prog w base spare held m 3 ((((cs.drop 4).take 6).drop 2).take (Tryz.prog.cellsOf 3)) = some z2 from hzs 2 _ rfl)
          · exact int_at (show DataW.trod enc Tryz.prog w base spare held m 3 ((((cs.drop 4).take 6).drop 3).take (Tryz.prog.cellsOf 3)) = some z3 from hzs 3 _ rfl)
          · exact int_at (show DataW.trod enc Tryz.prog w base spare held m 3 ((((cs.drop 4).take 6).drop 4).take (Tryz.prog.cellsOf 3)) = some z4 from hzs 4 _ rfl)
          · exact int_at (show DataW.trod enc Tryz.prog w base spare held m 3 ((((cs.drop 4).take 6).drop 5).take (Tryz.prog.cellsOf 3)) = some z5 from hzs 5 _ rfl)
        obtain ⟨n, e⟩ := e
        rw [List.getElem?_take, if_pos hi, List.getElem?_drop] at e
        exact ⟨n, e⟩
    refine ⟨acOf cs.toArray, ?_⟩
    have key : ∀ j, j < 14 → ∃ n, cs[j]? = some (.int .i64 n) := fun j hj => by
      by_cases c1 : j < 4
      · have : j = 0 ∨ j = 1 ∨ j = 2 ∨ j = 3 := by omega
        rcases this with rfl | rfl | rfl | rfl
        · exact g0
        · exact g1
        · exact g2
        · exact g3
      · by_cases c2 : j < 10
        · have := k4 (j - 4) (by omega)
          rwa [show 4 + (j - 4) = j by omega] at this
        · have := k5 (j - 10) (by omega)
          rwa [show 10 + (j - 10) = j by omega] at this
    have val : ∀ j, j < 14 → cs[j]? = some (.int .i64 (intAt cs.toArray j)) := fun j hj => by
      obtain ⟨n, e⟩ := key j hj
      rw [e]; simp [intAt, e]
    apply List.ext_getElem?
    intro j
    by_cases hj : j < 14
    · rw [val j hj]
      have : j = 0 ∨ j = 1 ∨ j = 2 ∨ j = 3 ∨ j = 4 ∨ j = 5 ∨ j = 6 ∨ j = 7 ∨ j = 8 ∨ j = 9 ∨ j = 10 ∨ j = 11 ∨ j = 12 ∨ j = 13 := by omega
      rcases this with rfl | rfl | rfl | rfl | rfl | rfl | rfl | rfl | rfl | rfl | rfl | rfl | rfl | rfl <;> rfl
    · rw [List.getElem?_eq_none (by omega), List.getElem?_eq_none (by simp [acArr]; omega)]

theorem open_act {r : Reach} {b0 : Nat} {u : Value} {d : DataW H} {p : List MemPlace} (hv : Value.okWide Tryz.prog w r b0 38 u) (h : DataW.Trod enc Tryz.prog w base spare held 38 u d p) : ∃ a : Ac, u = .agg (acArr a) := by
  obtain ⟨C, rfl, hsz⟩ := okWide_struct Tryz.underlying38 hv
  obtain ⟨fuel, hf⟩ := h
  obtain ⟨a, e⟩ := act_cells hf
  refine ⟨a, ?_⟩
  have e' : C.toList = (acArr a).toList := e
  rw [← Array.toArray_toList (xs := C), e']

theorem cells_slice {v : Value} (h : ∃ a len cap, v = .slice a len cap) : v.cells = #[v] := by
  obtain ⟨_, _, _, rfl⟩ := h; rfl

/-- A list of acts, and where they lie. -/
def ActsAt (W : World) (s : Value) (l : List Ac) : Prop :=
  (l = [] ∧ ∃ a cap, s = .slice a 0 cap) ∨ ∃ b o cap, s = .slice (some ⟨b, o, none⟩) l.length cap ∧ ∀ i x, l[i]? = some x → W.rangeAt b (o + i * 14) (acArr x).toList
theorem ActsAt.len {W : World} {s : Value} {l : List Ac} (h : ActsAt W s l) : ∃ a cap, s = .slice a l.length cap := by
  rcases h with ⟨rfl, a, cap, rfl⟩ | ⟨b, o, cap, rfl, _⟩
  · exact ⟨a, cap, rfl⟩
  · exact ⟨_, cap, rfl⟩
theorem range_kept {W W' : World} {b o : Nat} {cs : List Value} (h : W.rangeAt b o cs) (hb : Below W.heap.size W W') : W'.rangeAt b o cs := fun j v hv => cell_on (h j v hv) hb
theorem ActsAt.keep {W W' : World} {s : Value} {l : List Ac} (h : ActsAt W s l) (hb : Below W.heap.size W W') : ActsAt W' s l := by
  rcases h with ⟨rfl, a, cap, rfl⟩ | ⟨b, o, cap, rfl, hc⟩
  · exact Or.inl ⟨rfl, a, cap, rfl⟩
  · exact Or.inr ⟨b, o, cap, rfl, fun i x hx => range_kept (hc i x hx) hb⟩
theorem ActsAt.lies {W : World} {s : Value} {l : List Ac} (h : ActsAt W s l) {i : Nat} {x : Ac} (hx : l[i]? = some x) : ∃ b o cap, s = .slice (some ⟨b, o, none⟩) l.length cap ∧ W.rangeAt b (o + i * 14) (acArr x).toList := by
  rcases h with ⟨rfl, _⟩ | ⟨b, o, cap, rfl, hc⟩
  · simp at hx
  · exact ⟨b, o, cap, rfl, hc i x hx⟩

theorem open_acts {u : Value} {d : DataW H} {p : List MemPlace} (h : DataW.Trod enc Tryz.prog w base spare held 22 u d p) (hu : u.cells = #[u]) :
    ∃ l : List Ac, ActsAt w u l ∧ (l = [] ∨ ∃ e s, d = .slice e s ∧ l.length ≤ e.length) := by
  obtain ⟨fuel, hf⟩ := h
  rw [hu] at hf
  rcases DataW.trod_slice Tryz.underlying22 hf with ⟨h0, _⟩ | ⟨a, len, cap, elems, rest, n, _, hc, hd, hb, hl, hm, hlen, hel, hsp, hns⟩
  · have e : u = .slice none 0 0 := by simpa using h0
    exact ⟨[], Or.inl ⟨rfl, none, 0, e⟩, Or.inl rfl⟩
  · have e : u = .slice (some a) len cap := by simpa using hc
    have key : ∀ i, i < len → ∃ x : Ac, ∀ j, j < 14 → w.cell? (a.add (i * 14)  |>.add j) = (acArr x).toList[j]? := fun i hi => by
      have h1 := hel i hi
      rw [List.getElem?_eq_getElem (by omega), Option.bind_eq_some_iff, show Tryz.prog.cellsOf 38 = 14 by kernel_rfl] at h1
      obtain ⟨cs, h2, h3⟩ := h1
      obtain ⟨x, hx⟩ := act_cells h3
      obtain ⟨_, _, h4⟩ := World.cells?_some h2
      exact ⟨x, fun j hj => by rw [h4 j hj, hx]⟩
    by_cases h0 : len = 0
    · subst h0
      exact ⟨[], Or.inl ⟨rfl, _, _, e⟩, Or.inl rfl⟩
    · obtain ⟨x0, hx0⟩ := key 0 (by omega)
      have hspot : a.spot = none := by
        have h1 := hx0 0 (by omega)
        have h2 : w.cell? a = some (.int .i64 x0.kind) := by simpa [Addr.add, acArr] using h1
        unfold World.cell? at h2
        split at h2
        · split at h2
          · cases h2
          · rename_i hs; simpa using hs
        · cases h2
      obtain ⟨b, o, sp⟩ := a
      subst hspot
      have hch : ∃ l : List Ac, l.length = len ∧ ∀ i x, l[i]? = some x → w.rangeAt b (o + i * 14) (acArr x).toList := by
        have : ∀ m, m ≤ len → ∃ l : List Ac, l.length = m ∧ ∀ i x, l[i]? = some x → w.rangeAt b (o + i * 14) (acArr x).toList := by
          intro m
          induction m with
          | zero => intro _; exact ⟨[], rfl, fun i x hx => by simp at hx⟩
          | succ m ih =>
            intro hm'
            obtain ⟨l, h1, h2⟩ := ih (by omega)
            obtain ⟨x, hx⟩ := key m (by omega)
            refine ⟨l ++ [x], by simp [h1], fun i y hy => ?_⟩
            by_cases c : i < l.length
            · rw [List.getElem?_append_left c] at hy
              exact h2 i y hy
            · rw [List.getElem?_append_right (by omega)] at hy
              have hi : i = m := by
                by_cases c2 : i - l.length = 0
                · omega
                · rw [List.getElem?_eq_none (by simp; omega)] at hy; cases hy
              subst hi
              rw [h1, Nat.sub_self] at hy
              obtain rfl : x = y := by simpa using hy
              intro j v hv
              have hj : j < 14 := by
                by_cases hlt : j < 14
                · exact hlt
                · rw [List.getElem?_eq_none (by simp [acArr]; omega)] at hv; cases hv
              have h3 := hx j hj
              rw [Addr.add_mid, Addr.add_mid] at h3
              rw [h3]; exact hv
        exact this len (Nat.le_refl _)
      obtain ⟨l, h1, h2⟩ := hch
      exact ⟨l, Or.inr ⟨b, o, cap, by rw [e, h1], h2⟩, Or.inr ⟨_, _, (Prod.mk.inj hd).1, by simp [h1, hlen]⟩⟩
end
end Go.Proofs.YtmmgaonlmpajbacGreat
