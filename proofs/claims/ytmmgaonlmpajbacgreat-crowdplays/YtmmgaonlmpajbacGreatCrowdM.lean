/-
  A crowd as it lies: four nodes, its letters' slice, who may lie, how many acts were done; what a call on it may turn. No function of the program is named here.
-/
import Derived.Test.YtmmgaonlmpajbacGreatTurnA
namespace Go.Proofs.YtmmgaonlmpajbacGreat
open Go.RowKit

/-- The cell at place j. -/
def ccellAt (n : Nat → NI) (nt : Value) (liar acts : Int) (j : Nat) : Value :=
  if j < 1128 then ncellAt (n (j / 282)) (j % 282)
  else if j = 1128 then nt
  else if j = 1129 then .int .i64 liar
  else .int .i64 acts
def ccells (n : Nat → NI) (nt : Value) (liar acts : Int) : Array Value := ((List.range 1131).map (ccellAt n nt liar acts)).toArray

section
variable (n : Nat → NI) (nt : Value) (liar acts : Int)
theorem ccells_size : (ccells n nt liar acts).size = 1131 := by simp [ccells]
theorem ccells_at (j : Nat) (hj : j < 1131) : (ccells n nt liar acts)[j]? = some (ccellAt n nt liar acts j) := by simp [ccells, hj]
theorem ccells_node (i k : Nat) (hi : i < 4) (hk : k < 282) : (ccells n nt liar acts)[i * 282 + k]? = some (ncellAt (n i) k) := by
  rw [ccells_at _ _ _ _ _ (by omega)]; unfold ccellAt
  rw [if_pos (by omega), show (i * 282 + k) / 282 = i by omega, show (i * 282 + k) % 282 = k by omega]
theorem ccells_nt : (ccells n nt liar acts)[1128]? = some nt := by rw [ccells_at _ _ _ _ _ (by omega)]; rfl
theorem ccells_liar : (ccells n nt liar acts)[1129]? = some (.int .i64 liar) := by rw [ccells_at _ _ _ _ _ (by omega)]; rfl
theorem ccells_acts : (ccells n nt liar acts)[1130]? = some (.int .i64 acts) := by rw [ccells_at _ _ _ _ _ (by omega)]; rfl
theorem ccells_set_nt (v : Value) : (ccells n nt liar acts).setIfInBounds 1128 v = ccells n v liar acts := by
  apply Array.ext_getElem?
  intro k
  rw [Array.getElem?_setIfInBounds]
  by_cases hk : k < 1131
  · by_cases e : 1128 = k
    · subst e; rw [if_pos rfl, if_pos (by rw [ccells_size]; omega), ccells_nt]
    · rw [if_neg e, ccells_at _ _ _ _ k hk, ccells_at _ _ _ _ k hk]
      congr 1
      unfold ccellAt
      by_cases c : k < 1128
      · rw [if_pos c, if_pos c]
      · have c2 : ¬ k = 1128 := fun h => e h.symm
        rw [if_neg c, if_neg c, if_neg c2, if_neg c2]
  · have h1 : (ccells n nt liar acts)[k]? = none := Array.getElem?_eq_none (by rw [ccells_size]; omega)
    have h2 : (ccells n v liar acts)[k]? = none := Array.getElem?_eq_none (by rw [ccells_size]; omega)
    rw [h1, h2, if_neg (by omega)]
theorem ccells_set_acts (x : Int) : (ccells n nt liar acts).setIfInBounds 1130 (.int .i64 x) = ccells n nt liar x := by
  apply Array.ext_getElem?
  intro k
  rw [Array.getElem?_setIfInBounds]
  by_cases hk : k < 1131
  · by_cases e : 1130 = k
    · subst e; rw [if_pos rfl, if_pos (by rw [ccells_size]; omega), ccells_acts]
    · rw [if_neg e, ccells_at _ _ _ _ k hk, ccells_at _ _ _ _ k hk]
      congr 1
      unfold ccellAt
      by_cases c : k < 1128
      · rw [if_pos c, if_pos c]
      · rw [if_neg c, if_neg c]
        by_cases c2 : k = 1128
        · rw [if_pos c2, if_pos c2]
        · rw [if_neg c2, if_neg c2, if_pos (by omega), if_pos (by omega)]
  · have h1 : (ccells n nt liar acts)[k]? = none := Array.getElem?_eq_none (by rw [ccells_size]; omega)
    have h2 : (ccells n nt liar x)[k]? = none := Array.getElem?_eq_none (by rw [ccells_size]; omega)
    rw [h1, h2, if_neg (by omega)]
end

/-- A whole node of a crowd. -/
theorem cnode_range {W : World} {g : Nat} {n : Nat → NI} {nt : Value} {liar acts : Int} {t : TypeId} (B : Blk W g (ccells n nt liar acts) t) (i : Nat) (hi : i < 4) : W.rangeAt g (i * 282) (n i).cells.toList := by
  intro j u hu
  have hj : j < 282 := by
    by_cases hlt : j < 282
    · exact hlt
    · rw [List.getElem?_eq_none (by rw [Array.length_toList, ncells_size]; omega)] at hu; cases hu
  rw [B.cell, ccells_node _ _ _ _ i j hi hj]
  rw [Array.getElem?_toList, ncells_at _ j hj] at hu
  exact hu
theorem Blk.setNode {W : World} {g : Nat} {n : Nat → NI} {nt : Value} {liar acts : Int} {t : TypeId} (B : Blk W g (ccells n nt liar acts) t) (i : Nat) (hi : i < 4) (m : NI) :
    Blk (W.setCells g (i * 282) m.cells.toList) g (ccells (fun k => if k = i then m else n k) nt liar acts) t := by
  have hl : m.cells.toList.length = 282 := by rw [Array.length_toList, ncells_size]
  refine B.setMid _ _ (by rw [hl, ccells_size]; omega) (fun j => ?_)
  rw [hl]
  by_cases c : i * 282 ≤ j ∧ j < i * 282 + 282
  · rw [if_pos c, Array.getElem?_toList, ncells_at m _ (by omega)]
    have e : j = i * 282 + (j - i * 282) := by omega
    rw [e, ccells_node _ _ _ _ i _ hi (by omega), show i * 282 + (j - i * 282) - i * 282 = j - i * 282 by omega, if_pos rfl]
  · rw [if_neg c]
    by_cases hj : j < 1131
    · rw [ccells_at _ _ _ _ j hj, ccells_at _ _ _ _ j hj]
      congr 1
      unfold ccellAt
      by_cases c2 : j < 1128
      · rw [if_pos c2, if_pos c2]
        show ncellAt (if j / 282 = i then m else n (j / 282)) _ = _
        rw [if_neg (by omega)]
      · rw [if_neg c2, if_neg c2]
    · rw [Array.getElem?_eq_none (by rw [ccells_size]; omega), Array.getElem?_eq_none (by rw [ccells_size]; omega)]

/-- A part of a block is stored over: the world behind is a letter. -/
theorem wpList_store_node {P : Program} {ops : Array Oper} {rest : List Oper} {op : Oper} {a : Act} {w : World} {Q : Exit → Act → World → Prop} (hgd : op.guard = none) (ty : TypeId) (x y : Operand) (ho : op.op = .store ty x y)
    (g i : Nat) (n : Nat → NI) (nt : Value) (liar acts : Int) (m : NI) (t : TypeId) (hx : a.eval x = .pointer (some ⟨g, i * 282, none⟩)) (hy : a.eval y = .agg m.cells) (hi : i < 4) (hB : Blk w g (ccells n nt liar acts) t) (hty : (P.info? ty).map (·.size) = some m.cells.size) (h1 : m.cells.all (·.oneCell') = true)
    (h : ∀ w', Blk w' g (ccells (fun k => if k = i then m else n k) nt liar acts) t → w.grownBy w' (some g) → w'.heap.size = w.heap.size → wpList P ops Q rest (a.put op.dst undef) w') : wpList P ops Q (op :: rest) a w :=
  wpList_store_mid hgd ty x y ho g (i * 282) m.cells hx hy (by rw [ncells_size]; exact hB.there_mid _ _ (by rw [ccells_size]; omega)) hty h1 (h _ (hB.setNode i hi m) (grown_setCells w g _ _) (size_setCells g _ _ w))

/-! ### Letters -/
def leCells (x : Nat × Wd) : List Value := .int .i64 (x.1 : Int) :: wdCells x.2
def lesCells (l : List (Nat × Wd)) : List Value := l.flatMap leCells
theorem lesCells_length (l : List (Nat × Wd)) : (lesCells l).length = l.length * 7 := by
  induction l with
  | nil => rfl
  | cons a l ih => simp [lesCells, leCells, wdCells] at ih ⊢; omega
theorem les_at : ∀ (l : List (Nat × Wd)) (i : Nat) (x : Nat × Wd), l[i]? = some x → ∀ j, j < 7 → (lesCells l)[i * 7 + j]? = (leCells x)[j]?
  | [], i, x, h, j, hj => by simp at h
  | a :: l, 0, x, h, j, hj => by
    obtain rfl : a = x := by simpa using h
    show (leCells a ++ lesCells l)[0 * 7 + j]? = _
    rw [List.getElem?_append_left (by show 0 * 7 + j < 7; omega), Nat.zero_mul, Nat.zero_add]
  | a :: l, i + 1, x, h, j, hj => by
    show (leCells a ++ lesCells l)[(i + 1) * 7 + j]? = _
    rw [List.getElem?_append_right (by show 7 ≤ _; omega)]
    show (lesCells l)[(i + 1) * 7 + j - 7]? = _
    rw [show (i + 1) * 7 + j - 7 = i * 7 + j by omega]
    exact les_at l i x (by simpa using h) j hj

/-! ### A crowd, plain and as it lies -/
structure Cw where
  nd : Nat → Nd
  net : List (Nat × Wd)
  liar : Int
  acts : Nat

structure CwAt (W : World) (g : Nat) (t : TypeId) (c : Cw) (q : Nat → Value) (nt : Value) : Prop where
  blk : Blk W g (ccells (fun i => (c.nd i).ni (q i)) nt c.liar (c.acts : Int)) t
  que : ∀ i, i < 4 → W.ownsRow g 3 1 (q i) (c.nd i).queue.length ((c.nd i).queue.map (Value.int .i64))
  net : W.ownsRow 0 79 7 nt c.net.length (lesCells c.net)

/-- What a call on a crowd may turn: its own block, its letters' row; all else is as it was. -/
structure Touch (g : Nat) (nt : Value) (W W' : World) : Prop where
  os : W'.os = W.os
  tape : W'.tape = W.tape
  output : W'.output = W.output
  size : W.heap.size ≤ W'.heap.size
  block : ∀ k, k < W.heap.size → k ≠ g → nt.ownBlock ≠ some k → W'.heap[k]? = W.heap[k]?
/-- The letters' row is the same block, or a new one. -/
def Next (nt nt' : Value) (W : World) : Prop := nt'.ownBlock = nt.ownBlock ∨ ∀ k, nt'.ownBlock = some k → W.heap.size ≤ k

theorem Next.refl (nt : Value) (W : World) : Next nt nt W := Or.inl rfl
theorem Next.trans {a b c : Value} {W W' : World} (h : Next a b W) (k : Next b c W') (hs : W.heap.size ≤ W'.heap.size) : Next a c W := by
  rcases k with k | k
  · rcases h with h | h
    · exact Or.inl (k.trans h)
    · exact Or.inr fun x hx => h x (by rw [← k]; exact hx)
  · exact Or.inr fun x hx => Nat.le_trans hs (k x hx)
theorem Touch.refl (g : Nat) (nt : Value) (W : World) : Touch g nt W W := ⟨rfl, rfl, rfl, Nat.le_refl _, fun _ _ _ _ => rfl⟩
theorem Touch.trans {g : Nat} {a b : Value} {W W' W2 : World} (h : Touch g a W W') (k : Touch g b W' W2) (n : Next a b W) : Touch g a W W2 := by
  refine ⟨k.os.trans h.os, k.tape.trans h.tape, k.output.trans h.output, Nat.le_trans h.size k.size, fun x hx hg ha => ?_⟩
  refine (k.block x (Nat.lt_of_lt_of_le hx h.size) hg (fun hb => ?_)).trans (h.block x hx hg ha)
  rcases n with n | n
  · exact ha (n.symm.trans hb)
  · have := n x hb; omega
theorem Touch.below {g : Nat} {nt : Value} {W W' : World} (h : Below W.heap.size W W') : Touch g nt W W' := ⟨h.os, h.tape, h.output, h.size, fun k hk _ _ => h.block k hk⟩
theorem Touch.grownB {g : Nat} {nt : Value} {W W' : World} (h : W.grownBy W' (some g)) : Touch g nt W W' := ⟨h.os, h.tape, h.output, h.size, fun k hk hg _ => h.block k hk (fun e => hg (Option.some.inj e))⟩
theorem Touch.grownN {g : Nat} {nt : Value} {W W' : World} (h : W.grownBy W' nt.ownBlock) : Touch g nt W W' := ⟨h.os, h.tape, h.output, h.size, fun k hk _ hn => h.block k hk (fun e => hn e.symm)⟩
theorem Touch.bel {g B : Nat} {nt : Value} {W W' : World} (h : Touch g nt W W') (hg : B ≤ g) (hn : ∀ k, nt.ownBlock = some k → B ≤ k) (hB : B ≤ W.heap.size) : Below B W W' :=
  ⟨h.os, h.tape, h.output, h.size, fun k hk => h.block k (by omega) (by omega) (fun e => by have := hn k e; omega)⟩
/-- A block of another type than a crowd's and a letter's row is as it was. -/
theorem Touch.blk {g x : Nat} {nt : Value} {W W' : World} {C D : Array Value} {t t' : TypeId} {base n : Nat} {xs : List Value} (h : Touch g nt W W') (G : Blk W g D t) (N : W.ownsRow base 79 7 nt n xs) (B : Blk W x C t') (h1 : t' ≠ t) (h2 : t' ≠ 79) : Blk W' x C t' := by
  unfold Blk
  rw [h.block x B.lt (fun e => ?_) (fun e => ?_)]
  · exact B
  · subst e
    unfold Blk at G B
    rw [G] at B
    injection B with B; injection B with _ B
    exact h1 B.symm
  · obtain ⟨_, _, cur, hc⟩ := own_block N x e
    unfold Blk at B
    rw [hc] at B
    injection B with B; injection B with _ B
    exact h2 B.symm
theorem Touch.own {g : Nat} {nt : Value} {W W' : World} {D : Array Value} {t e : TypeId} {base n : Nat} {xs : List Value} {b size m : Nat} {v : Value} {ys : List Value} (h : Touch g nt W W') (G : Blk W g D t) (N : W.ownsRow base 79 7 nt n xs) (O : W.ownsRow b e size v m ys) (h1 : e ≠ t) (h2 : e ≠ 79) : W'.ownsRow b e size v m ys := by
  refine ⟨O.1, ?_⟩
  rcases O.2 with o | ⟨k, cap, cur, hv, hb, hh, h3⟩
  · exact Or.inl o
  · exact Or.inr ⟨k, cap, cur, hv, hb, h.blk G N hh h1 h2, h3⟩

theorem CwAt.keep {W W' : World} {g : Nat} {t : TypeId} {c : Cw} {q : Nat → Value} {nt : Value} (h : CwAt W g t c q nt) (b : Below W.heap.size W W') : CwAt W' g t c q nt :=
  ⟨h.blk.below b, fun i hi => own_below (h.que i hi) b, own_below h.net b⟩
theorem CwAt.drew {W : World} {g : Nat} {t : TypeId} {c : Cw} {q : Nat → Value} {nt : Value} (h : CwAt W g t c q nt) : CwAt W.drew g t c q nt := ⟨h.blk, h.que, h.net⟩
theorem CwAt.node {W : World} {g : Nat} {t : TypeId} {c : Cw} {q : Nat → Value} {nt : Value} (h : CwAt W g t c q nt) (i : Nat) (hi : i < 4) : W.rangeAt g (i * 282) ((c.nd i).ni (q i)).cells.toList := cnode_range h.blk i hi
theorem CwAt.ints {W : World} {g : Nat} {t : TypeId} {c : Cw} {q : Nat → Value} {nt : Value} (h : CwAt W g t c q nt) (i : Nat) (hi : i < 4) : Ints W (q i) (c.nd i).queue := own_ints (h.que i hi)
theorem CwAt.acts {W : World} {g : Nat} {t : TypeId} {c : Cw} {q : Nat → Value} {nt : Value} (h : CwAt W g t c q nt) : W.cell? ⟨g, 1130, none⟩ = some (.int .i64 (c.acts : Int)) := by rw [h.blk.cell, ccells_acts]
theorem CwAt.liar {W : World} {g : Nat} {t : TypeId} {c : Cw} {q : Nat → Value} {nt : Value} (h : CwAt W g t c q nt) : W.cell? ⟨g, 1129, none⟩ = some (.int .i64 c.liar) := by rw [h.blk.cell, ccells_liar]
theorem CwAt.slice {W : World} {g : Nat} {t : TypeId} {c : Cw} {q : Nat → Value} {nt : Value} (h : CwAt W g t c q nt) : W.cell? ⟨g, 1128, none⟩ = some nt := by rw [h.blk.cell, ccells_nt]

/-- A row is never the block of another type. -/
theorem own_not {W : World} {g : Nat} {D : Array Value} {t e : TypeId} {b size m : Nat} {v : Value} {ys : List Value} (G : Blk W g D t) (O : W.ownsRow b e size v m ys) (h : e ≠ t) : v.ownBlock ≠ some g := fun hk => by
  obtain ⟨_, _, cur, hc⟩ := own_block O g hk
  unfold Blk at G
  rw [hc] at G
  injection G with G; injection G with _ G
  exact h G
theorem own_keptT {W W' : World} {x : Nat} {D : Array Value} {t e : TypeId} {b size m : Nat} {v : Value} {ys : List Value} (O : W.ownsRow b e size v m ys) (K : Kept x W W') (X : Blk W x D t) (h : e ≠ t) : W'.ownsRow b e size v m ys := by
  have hn := own_not X O h
  refine ⟨O.1, ?_⟩
  rcases O.2 with o | ⟨k, cap, cur, hv, hb, hh, h3⟩
  · exact Or.inl o
  · exact Or.inr ⟨k, cap, cur, hv, hb, K.blk k cur e (fun ek => hn (by rw [hv, ← ek]; rfl)) hh, h3⟩
theorem blk_ne {W : World} {g x : Nat} {C D : Array Value} {t t' : TypeId} (G : Blk W g C t) (X : Blk W x D t') (h : t ≠ t') : g ≠ x := fun e => by
  subst e
  unfold Blk at G X
  rw [G] at X
  injection X with X; injection X with _ X
  exact h X
/-- A block of another type is stored over: the crowd is as it was. -/
theorem CwAt.kept {W W' : World} {g x : Nat} {t t' : TypeId} {c : Cw} {q : Nat → Value} {nt : Value} {D : Array Value} (h : CwAt W g t c q nt) (K : Kept x W W') (X : Blk W x D t') (h1 : t ≠ t') (h2 : 3 ≠ t') (h3 : 79 ≠ t') : CwAt W' g t c q nt :=
  ⟨K.blk g _ _ (blk_ne h.blk X h1) h.blk, fun i hi => own_keptT (h.que i hi) K X h2, own_keptT h.net K X h3⟩
theorem Touch.more {g B : Nat} {nt : Value} {W W' W2 : World} (h : Touch g nt W W') (b : Below B W' W2) (hB : W.heap.size ≤ B) : Touch g nt W W2 :=
  ⟨b.os.trans h.os, b.tape.trans h.tape, b.output.trans h.output, Nat.le_trans h.size b.size, fun k hk hg hn => (b.block k (by omega)).trans (h.block k hk hg hn)⟩
/-- A node of the crowd is another one. -/
theorem CwAt.put {W W' : World} {g : Nat} {t : TypeId} {c : Cw} {q : Nat → Value} {nt : Value} (h : CwAt W g t c q nt) (G : W.grownBy W' (some g)) (who base : Nat) (n : Nd) (q' : Value) (B : Blk W' g (ccells (fun k => if k = who then n.ni q' else (c.nd k).ni (q k)) nt c.liar (c.acts : Int)) t) (hq : W.ownsRow base 3 1 q' n.queue.length (n.queue.map (Value.int .i64))) (hgb : g ≤ base) (h1 : 3 ≠ t) (h2 : 79 ≠ t) :
    CwAt W' g t { c with nd := fun k => if k = who then n else c.nd k } (fun k => if k = who then q' else q k) nt := by
  refine ⟨?_, fun i hi => ?_, h.net.kept G (Or.inr (own_not h.blk h.net h2))⟩
  · have e : (fun k => if k = who then n.ni q' else (c.nd k).ni (q k)) = fun i => (if i = who then n else c.nd i).ni (if i = who then q' else q i) := by
      funext k
      by_cases hk : k = who
      · rw [if_pos hk, if_pos hk, if_pos hk]
      · rw [if_neg hk, if_neg hk, if_neg hk]
    rw [e] at B
    exact B
  · by_cases hk : i = who
    · show World.ownsRow _ _ _ _ (if i = who then q' else q i) (if i = who then n else c.nd i).queue.length ((if i = who then n else c.nd i).queue.map _)
      rw [if_pos hk, if_pos hk]
      exact (own_mono hq hgb).kept G (Or.inr (own_not h.blk hq h1))
    · show World.ownsRow _ _ _ _ (if i = who then q' else q i) (if i = who then n else c.nd i).queue.length ((if i = who then n else c.nd i).queue.map _)
      rw [if_neg hk, if_neg hk]
      exact (h.que i hi).kept G (Or.inr (own_not h.blk (h.que i hi) h1))
end Go.Proofs.YtmmgaonlmpajbacGreat
