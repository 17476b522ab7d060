/-
  A map of words to numbers, as it lies: looked up, stored into.
-/
import Derived.Test.YtmmgaonlmpajbabRefWords
namespace Go.Proofs.Ytmmgaonlmpajbab
open Go.RowKit

/-- A word's six cells, and whether two words are the same. -/
def wdV (w : Wd) : Array Value := #[.int .i64 w.k, .int .i64 w.f, .int .i64 w.h, .int .i64 w.r, .int .i64 w.v, .int .i64 w.x]
def eqWd (a b : Wd) : Bool := a.k == b.k && (a.f == b.f && (a.h == b.h && (a.r == b.r && (a.v == b.v && a.x == b.x))))
theorem eqWd_iff {a b : Wd} : eqWd a b = true ↔ a = b := by
  obtain ⟨k, f, h, r, v, x⟩ := a
  obtain ⟨k', f', h', r', v', x'⟩ := b
  simp [eqWd]
set_option maxHeartbeats 2000000 in
theorem eq_words (a b : Wd) (W : World) : Sem.run Try.prog (Op.equalIn 10000 36 (.agg (wdV a)) (.agg (wdV b))) W = .ok (eqWd a b) W := by
  unfold wdV
  rw [run_equalIn_struct (P := Try.prog) W 9999 36 _ _ (by kernel_rfl) (by kernel_rfl)]
  unfold eqWd
  cases h1 : a.k == b.k
  · simp [Program.fieldsOf, Try.underlying36, Op.eqFields, go_sem, Try.underlying3, h1]
  cases h2 : a.f == b.f
  · simp [Program.fieldsOf, Try.underlying36, Op.eqFields, go_sem, Try.underlying3, h1, h2]
  cases h3 : a.h == b.h
  · simp [Program.fieldsOf, Try.underlying36, Op.eqFields, go_sem, Try.underlying3, h1, h2, h3]
  cases h4 : a.r == b.r
  · simp [Program.fieldsOf, Try.underlying36, Op.eqFields, go_sem, Try.underlying3, h1, h2, h3, h4]
  cases h5 : a.v == b.v
  · simp [Program.fieldsOf, Try.underlying36, Op.eqFields, go_sem, Try.underlying3, h1, h2, h3, h4, h5]
  cases h6 : a.x == b.x
  · simp [Program.fieldsOf, Try.underlying36, Op.eqFields, go_sem, Try.underlying3, h1, h2, h3, h4, h5, h6]
  simp [Program.fieldsOf, Try.underlying36, Op.eqFields, go_sem, Try.underlying3, h1, h2, h3, h4, h5, h6]
theorem check_word (e : Bool) (a : Wd) (W : World) : Sem.run Try.prog (Instr.checkKey e 10000 36 (.agg (wdV a))) W = .ok () W := by show _ = _; kernel_rfl

theorem same_agg (n : Nat) (a b : Array Value) : Instr.sameBits (n + 1) (.agg a) (.agg b) = (a.size == b.size && (a.toList.zip b.toList).all fun (x, y) => Instr.sameBits n x y) := by rw [Instr.sameBits]
theorem same_int (n : Nat) (a : Int) : Instr.sameBits (n + 1) (.int .i64 a) (.int .i64 a) = true := by rw [Instr.sameBits]; simp
theorem same_word (w : Wd) : Instr.sameBits 10000 (.agg (wdV w)) (.agg (wdV w)) = true := by
  rw [show (10000 : Nat) = 9998 + 1 + 1 from rfl, same_agg]
  simp [wdV, same_int]
/-- An entry; where a word is found. -/
def entA (e : Wd × Int × Nat) : MapEntry := ⟨.agg (wdV e.1), .int .i64 e.2.1, e.2.2⟩
def findR (w : Wd) : List (Wd × Int × Nat) → Nat → Option (Nat × Value)
  | [], _ => none
  | e :: M, i => if eqWd w e.1 = true then some (i, .int .i64 e.2.1) else findR w M (i + 1)
theorem run_asking (w : Wd) (W : World) : ∀ (M : List (Wd × Int × Nat)) (i : Nat), Sem.run Try.prog (Instr.findAsking 36 (.agg (wdV w)) (M.map entA) i) W = .ok (findR w M i) W
  | [], i => rfl
  | e :: M, i => by
    have h := eq_words w e.1 W
    show Sem.run Try.prog (do
      if ← Op.equal 36 (.agg (wdV w)) (.agg (wdV e.1)) then pure (some (i, (.int .i64 e.2.1 : Value))) else Instr.findAsking 36 (.agg (wdV w)) (M.map entA) (i + 1)) W = _
    rw [Sem.run_bind, show Sem.run Try.prog (Op.equal 36 (.agg (wdV w)) (.agg (wdV e.1))) W = .ok (eqWd w e.1) W from h]
    unfold findR
    cases eqWd w e.1
    · exact run_asking w W M (i + 1)
    · rfl
theorem run_find (w : Wd) (W : World) (M : List (Wd × Int × Nat)) : Sem.run Try.prog (Instr.findKey 36 (.agg (wdV w)) (M.map entA)) W = .ok (findR w M 0) W := by
  unfold Instr.findKey
  cases M with
  | nil => show _ = _; kernel_rfl
  | cons e M =>
    have h := run_asking w W (e :: M) 0
    obtain ⟨fs, hd⟩ : ∃ fs, Try.prog.underlying 36 = some (.struct fs) := ⟨_, Try.underlying36⟩
    have hu := run_underlying hd W
    have hn : Instr.findNow (.struct fs) (.agg (wdV w)) ((e :: M).map entA) 0 = none := rfl
    rw [Sem.run_bind, hu, Result.andThen_ok]
    simp only [hn]
    exact h
theorem findR_some {w : Wd} {M : List (Wd × Int × Nat)} : ∀ {i j : Nat} {v : Value}, findR w M i = some (j, v) → ∃ e, i ≤ j ∧ M[j - i]? = some e ∧ e.1 = w ∧ v = .int .i64 e.2.1 := by
  induction M with
  | nil => intro i j v h; cases h
  | cons e M ih =>
    intro i j v h
    unfold findR at h
    split at h
    · rename_i c
      injection h with h
      injection h with h1 h2
      subst h1
      refine ⟨e, Nat.le_refl _, by simp, (eqWd_iff.1 c).symm, h2.symm⟩
    · obtain ⟨e', h1, h2, h3, h4⟩ := ih h
      refine ⟨e', by omega, ?_, h3, h4⟩
      rw [show j - i = (j - (i + 1)) + 1 by omega, List.getElem?_cons_succ]
      exact h2

/-- A map lies at a block. -/
def MapAt (W : World) (r : Nat) (M : List (Wd × Int × Nat)) : Prop := ∃ clock, W.heap[r]? = some (.map (M.map entA).toArray clock)
theorem MapAt.lt {W : World} {r : Nat} {M : List (Wd × Int × Nat)} (h : MapAt W r M) : r < W.heap.size := by
  obtain ⟨c, h⟩ := h
  exact (Array.getElem?_eq_some_iff.1 h).1
theorem MapAt.below {W W' : World} {r : Nat} {M : List (Wd × Int × Nat)} (h : MapAt W r M) (b : Below W.heap.size W W') : MapAt W' r M := by
  have hlt := h.lt
  obtain ⟨c, h⟩ := h
  exact ⟨c, (b.block r hlt).trans h⟩
/-- What is looked up: nothing, or what an entry of that word holds. -/
theorem lookup_word {W : World} {r : Nat} {M : List (Wd × Int × Nat)} (h : MapAt W r M) (w : Wd) : ∃ u : Int, (u = 0 ∨ ∃ e, e ∈ M ∧ e.1 = w ∧ e.2.1 = u) ∧ Sem.run Try.prog (Instr.lookup 69 (.map (some r)) (.agg (wdV w)) false) W = .ok (.int .i64 u) W := by
  obtain ⟨clock, h⟩ := h
  have hg := MapKept.run_getObj_map (P := Try.prog) h
  have hc := fun e => check_word e w W
  have hf := run_find w W M
  have hu : Sem.run Try.prog (underlying 69) W = .ok (.map 36 3) W := by go_simp
  have hz : Sem.run Try.prog (zeroValue 3) W = .ok (.int .i64 0) W := by show _ = _; kernel_rfl
  cases e : findR w M 0 with
  | none =>
    rw [e] at hf
    refine ⟨0, Or.inl rfl, ?_⟩
    unfold Instr.lookup
    simp only [Sem.run_bind, hu, Result.andThen_ok, hg, hc, Sem.run_pure]
    simp only [hf, Result.andThen_ok, Sem.run_bind, hz, Sem.run_pure]
    rfl
  | some p =>
    obtain ⟨j, v⟩ := p
    rw [e] at hf
    obtain ⟨en, _, h2, h3, h4⟩ := findR_some e
    refine ⟨en.2.1, Or.inr ⟨en, List.mem_of_getElem? h2, h3, rfl⟩, ?_⟩
    unfold Instr.lookup
    simp only [Sem.run_bind, hu, Result.andThen_ok, hg, hc, Sem.run_pure]
    simp only [hf, Result.andThen_ok, Sem.run_bind, Sem.run_pure, h4]
    rfl
theorem update_word {W : World} {r : Nat} {M : List (Wd × Int × Nat)} (h : MapAt W r M) (w : Wd) (u : Int) : ∃ W' M', Sem.run Try.prog (Instr.mapUpdate 69 (.map (some r)) (.agg (wdV w)) (.int .i64 u)) W = .ok () W' ∧ MapAt W' r M' ∧ (∀ e, e ∈ M' → e ∈ M ∨ (e.1 = w ∧ e.2.1 = u)) ∧ W.grownBy W' (some r) := by
  obtain ⟨clock, h⟩ := h
  have hg := MapKept.run_getObj_map (P := Try.prog) h
  have hc := fun e => check_word e w W
  have hf := run_find w W M
  have hu : Sem.run Try.prog (underlying 69) W = .ok (.map 36 3) W := by go_simp
  have hG : ∀ o, W.grownBy { W with heap := W.heap.setIfInBounds r o } (some r) := fun o => ⟨rfl, rfl, rfl, by simp, fun i _ hi => by
    show (W.heap.setIfInBounds r o)[i]? = _
    rw [Array.getElem?_setIfInBounds, if_neg (fun e => hi (by rw [e]))]⟩
  have hr : r < W.heap.size := (Array.getElem?_eq_some_iff.1 h).1
  have hH : ∀ o, ({ W with heap := W.heap.setIfInBounds r o } : World).heap[r]? = some o := fun o => by
    show (W.heap.setIfInBounds r o)[r]? = _
    rw [Array.getElem?_setIfInBounds, if_pos rfl, if_pos hr]
  cases e : findR w M 0 with
  | none =>
    rw [e] at hf
    refine ⟨_, M ++ [(w, u, clock)], ?_, ⟨clock + 1, ?_⟩, fun en hen => ?_, hG (.map ((M.map entA).toArray.push ⟨.agg (wdV w), .int .i64 u, clock⟩) (clock + 1))⟩
    · unfold Instr.mapUpdate
      simp only [Sem.run_bind, hu, Result.andThen_ok, hg, hc, hf]
      exact MapKept.run_setObj_map _ h
    · rw [hH]
      simp [entA]
    · rcases List.mem_append.1 hen with c | c
      · exact Or.inl c
      · have := List.mem_singleton.1 c
        subst this
        exact Or.inr ⟨rfl, rfl⟩
  | some p =>
    obtain ⟨j, v⟩ := p
    rw [e] at hf
    obtain ⟨en, _, h2, h3, h4⟩ := findR_some e
    have h2' : M[j]? = some en := h2
    have hk : Sem.run Try.prog (Instr.keyThatStays (.agg (wdV en.1)) (.agg (wdV w))) W = .ok (.agg (wdV w)) W := by
      rw [h3]
      have hs := same_word w
      unfold Instr.keyThatStays
      rw [if_pos hs]
      rfl
    have hent : (((M.map entA).toArray)[j]?).map (·.key) = some (.agg (wdV en.1)) := by simp [h2', entA]
    refine ⟨_, M.modify j (fun x => (w, u, x.2.2)), ?_, ⟨clock, ?_⟩, fun e' hen => ?_, hG (.map ((M.map entA).toArray.modify j fun e => { e with key := .agg (wdV w), val := .int .i64 u }) clock)⟩
    · unfold Instr.mapUpdate
      simp only [Sem.run_bind, hu, Result.andThen_ok, hg, hc, hf, hent, Option.getD_some, hk]
      exact MapKept.run_setObj_map _ h
    · have harr : ((M.map entA).toArray.modify j fun e => { e with key := .agg (wdV w), val := .int .i64 u }) = ((M.modify j (fun x => (w, u, x.2.2))).map entA).toArray := by
        apply Array.ext_getElem?
        intro i
        simp only [Array.getElem?_modify, List.getElem?_toArray, List.getElem?_map, List.getElem?_modify]
        by_cases hi : j = i
        · subst hi; simp [h2', entA]
        · simp [hi]
      rw [hH, harr]
    · obtain ⟨i, hi⟩ := List.getElem?_of_mem hen
      rw [List.getElem?_modify] at hi
      by_cases hij : j = i
      · subst hij
        rw [h2'] at hi
        simp at hi
        subst hi
        exact Or.inr ⟨rfl, rfl⟩
      · simp [hij] at hi
        exact Or.inl (List.mem_of_getElem? hi)
theorem wpList_mapUpdate_word {ops : Array Oper} {rest : List Oper} {o : Oper} {a : Act} {w : World} {Q : Exit → Act → World → Prop} (hgd : o.guard = none) (m x y : Operand) (ho : o.op = Op.mapUpdate 69 m x y)
    (r : Nat) (M : List (Wd × Int × Nat)) (v : Wd) (u : Int) (hm : a.eval m = .map (some r)) (hx : a.eval x = .agg (wdV v)) (hy : a.eval y = .int .i64 u) (H : MapAt w r M)
    (h : ∀ w' M', MapAt w' r M' → (∀ e, e ∈ M' → e ∈ M ∨ (e.1 = v ∧ e.2.1 = u)) → w.grownBy w' (some r) → wpList Try.prog ops Q rest (a.put o.dst undef) w') : wpList Try.prog ops Q (o :: rest) a w := by
  refine wpList_plain hgd fun K' hK' => ?_
  obtain ⟨w', M', hrun, r1, r2, r3⟩ := update_word H v u
  unfold Oper.wp
  simp [execOp, ho, hm, hx, hy, hrun, Result.andThen]
  exact hK' _ _ (h w' M' r1 r2 r3)
end Go.Proofs.Ytmmgaonlmpajbab
