/-
  A node at work lies as 284 cells: a node's, who it is, what it has said. What a store of one cell, or of a whole sheet, leaves. No function of the program is named here.
  The landed package node at work: sheet, hear.
  The landed package node at work: say.
  The landed package node at work: what its cells say; quorum, carried, wishFor, promise.
  The landed package node at work: enter.
  The landed package node at work: catchUp.
-/
import Derived.Test.YtmmgaonlmpajbacGreatNodeB
import Derived.Test.YtmmgaonlmpajbacGreatPlainN
import Derived.Test.YtmmgaonlmpajbacGreatBase
import Derived.Test.YtmmgaonlmpajbacGreatHears
namespace Go.Proofs.YtmmgaonlmpajbacGreat
open Go.RowKit

/-- A plain node as it lies: its numbers, its queue's slice. -/
def Nd.ni (n : Nd) (q : Value) : NI := ⟨n.height, n.round, n.step, n.bound, n.boundIn, n.valid, n.validIn, n.seen, n.heard, n.settled, q⟩

/-! ### One cell of a node is stored -/
theorem ncells_set (n m : NI) (j : Nat) (v : Value) (hv : ncellAt m j = v) (hj : j < 282) (ho : ∀ k, k < 282 → k ≠ j → ncellAt m k = ncellAt n k) : n.cells.setIfInBounds j v = m.cells := by
  apply Array.ext_getElem?
  intro k
  rw [Array.getElem?_setIfInBounds]
  by_cases hk : k < 282
  · by_cases hjk : j = k
    · subst hjk
      rw [if_pos rfl, if_pos (by rw [ncells_size]; omega), ncells_at m j hj, hv]
    · rw [if_neg hjk, ncells_at n k hk, ncells_at m k hk, ho k hk (fun h => hjk h.symm)]
  · have h1 : n.cells[k]? = none := Array.getElem?_eq_none (by rw [ncells_size]; omega)
    have h2 : m.cells[k]? = none := Array.getElem?_eq_none (by rw [ncells_size]; omega)
    rw [h1, h2, if_neg (by omega)]

theorem ncells_set_num (n m : NI) (j : Nat) (x : Int) (hj : j < 7) (hx : m.num j = x) (h1 : ∀ k, k < 7 → k ≠ j → m.num k = n.num k) (h2 : m.seen = n.seen) (h3 : m.heard = n.heard) (h4 : m.settled = n.settled) (h5 : m.q = n.q) : n.cells.setIfInBounds j (.int .i64 x) = m.cells := by
  refine ncells_set n m j _ ?_ (by omega) (fun k hk hne => ?_)
  · unfold ncellAt; rw [if_pos hj, hx]
  · unfold ncellAt
    by_cases c1 : k < 7
    · rw [if_pos c1, if_pos c1, h1 k c1 hne]
    · rw [if_neg c1, if_neg c1, h2, h3, h4, h5]

theorem num7 (m n : NI) (j : Nat) (h0 : j ≠ 0 → m.height = n.height) (h1 : j ≠ 1 → m.round = n.round) (h2 : j ≠ 2 → m.step = n.step) (h3 : j ≠ 3 → m.bound = n.bound) (h4 : j ≠ 4 → m.boundIn = n.boundIn) (h5 : j ≠ 5 → m.valid = n.valid) (h6 : j ≠ 6 → m.validIn = n.validIn) : ∀ k, k < 7 → k ≠ j → m.num k = n.num k := by
  intro k hk hne
  have hc : k = 0 ∨ k = 1 ∨ k = 2 ∨ k = 3 ∨ k = 4 ∨ k = 5 ∨ k = 6 := by omega
  rcases hc with rfl | rfl | rfl | rfl | rfl | rfl | rfl
  · exact h0 (Ne.symm hne)
  · exact h1 (Ne.symm hne)
  · exact h2 (Ne.symm hne)
  · exact h3 (Ne.symm hne)
  · exact h4 (Ne.symm hne)
  · exact h5 (Ne.symm hne)
  · exact h6 (Ne.symm hne)

theorem set_height (n : NI) (x : Int) : n.cells.setIfInBounds 0 (.int .i64 x) = ({ n with height := x } : NI).cells :=
  ncells_set_num n _ 0 x (by omega) rfl (num7 _ _ 0 (fun h => absurd rfl h) (fun _ => rfl) (fun _ => rfl) (fun _ => rfl) (fun _ => rfl) (fun _ => rfl) (fun _ => rfl)) rfl rfl rfl rfl
theorem set_round (n : NI) (x : Int) : n.cells.setIfInBounds 1 (.int .i64 x) = ({ n with round := x } : NI).cells :=
  ncells_set_num n _ 1 x (by omega) rfl (num7 _ _ 1 (fun _ => rfl) (fun h => absurd rfl h) (fun _ => rfl) (fun _ => rfl) (fun _ => rfl) (fun _ => rfl) (fun _ => rfl)) rfl rfl rfl rfl
theorem set_step (n : NI) (x : Int) : n.cells.setIfInBounds 2 (.int .i64 x) = ({ n with step := x } : NI).cells :=
  ncells_set_num n _ 2 x (by omega) rfl (num7 _ _ 2 (fun _ => rfl) (fun _ => rfl) (fun h => absurd rfl h) (fun _ => rfl) (fun _ => rfl) (fun _ => rfl) (fun _ => rfl)) rfl rfl rfl rfl
theorem set_bound (n : NI) (x : Int) : n.cells.setIfInBounds 3 (.int .i64 x) = ({ n with bound := x } : NI).cells :=
  ncells_set_num n _ 3 x (by omega) rfl (num7 _ _ 3 (fun _ => rfl) (fun _ => rfl) (fun _ => rfl) (fun h => absurd rfl h) (fun _ => rfl) (fun _ => rfl) (fun _ => rfl)) rfl rfl rfl rfl
theorem set_boundIn (n : NI) (x : Int) : n.cells.setIfInBounds 4 (.int .i64 x) = ({ n with boundIn := x } : NI).cells :=
  ncells_set_num n _ 4 x (by omega) rfl (num7 _ _ 4 (fun _ => rfl) (fun _ => rfl) (fun _ => rfl) (fun _ => rfl) (fun h => absurd rfl h) (fun _ => rfl) (fun _ => rfl)) rfl rfl rfl rfl
theorem set_valid (n : NI) (x : Int) : n.cells.setIfInBounds 5 (.int .i64 x) = ({ n with valid := x } : NI).cells :=
  ncells_set_num n _ 5 x (by omega) rfl (num7 _ _ 5 (fun _ => rfl) (fun _ => rfl) (fun _ => rfl) (fun _ => rfl) (fun _ => rfl) (fun h => absurd rfl h) (fun _ => rfl)) rfl rfl rfl rfl
theorem set_validIn (n : NI) (x : Int) : n.cells.setIfInBounds 6 (.int .i64 x) = ({ n with validIn := x } : NI).cells :=
  ncells_set_num n _ 6 x (by omega) rfl (num7 _ _ 6 (fun _ => rfl) (fun _ => rfl) (fun _ => rfl) (fun _ => rfl) (fun _ => rfl) (fun _ => rfl) (fun h => absurd rfl h)) rfl rfl rfl rfl

theorem ncell_num (n : NI) (j : Nat) (hj : j < 7) : ncellAt n j = .int .i64 (n.num j) := by unfold ncellAt; rw [if_pos hj]
theorem num_of (m n : NI) (h0 : m.height = n.height) (h1 : m.round = n.round) (h2 : m.step = n.step) (h3 : m.bound = n.bound) (h4 : m.boundIn = n.boundIn) (h5 : m.valid = n.valid) (h6 : m.validIn = n.validIn) (k : Nat) (hk : k < 7) : m.num k = n.num k :=
  num7 m n 7 (fun _ => h0) (fun _ => h1) (fun _ => h2) (fun _ => h3) (fun _ => h4) (fun _ => h5) (fun _ => h6) k hk (by omega)

theorem set_seen (n : NI) (r : Nat) (hr : r < 6) (b : Bool) : n.cells.setIfInBounds (7 + r) (.bool b) = ({ n with seen := fun k => if k = r then b else n.seen k } : NI).cells := by
  refine ncells_set n _ _ _ ?_ (by omega) (fun k hk hne => ?_)
  · unfold ncellAt; rw [if_neg (by omega), if_pos (by omega)]; simp
  · by_cases c1 : k < 7
    · rw [ncell_num _ k c1, ncell_num _ k c1]; exact congrArg (Value.int .i64) (num_of _ _ rfl rfl rfl rfl rfl rfl rfl k c1)
    · unfold ncellAt
      rw [if_neg c1, if_neg c1]
      by_cases c2 : k < 13
      · rw [if_pos c2, if_pos c2]
        have : k - 7 ≠ r := by omega
        simp [this]
      · rw [if_neg c2, if_neg c2]
theorem set_settled (n : NI) (h : Nat) (hh : h < 4) (x : Int) : n.cells.setIfInBounds (277 + h) (.int .i64 x) = ({ n with settled := fun k => if k = h then x else n.settled k } : NI).cells := by
  refine ncells_set n _ _ _ ?_ (by omega) (fun k hk hne => ?_)
  · unfold ncellAt; rw [if_neg (by omega), if_neg (by omega), if_neg (by omega), if_pos (by omega)]; simp
  · by_cases c1 : k < 7
    · rw [ncell_num _ k c1, ncell_num _ k c1]; exact congrArg (Value.int .i64) (num_of _ _ rfl rfl rfl rfl rfl rfl rfl k c1)
    · unfold ncellAt
      rw [if_neg c1, if_neg c1]
      by_cases c2 : k < 13
      · rw [if_pos c2, if_pos c2]
      · rw [if_neg c2, if_neg c2]
        by_cases c3 : k < 277
        · rw [if_pos c3, if_pos c3]
        · rw [if_neg c3, if_neg c3]
          by_cases c4 : k < 281
          · rw [if_pos c4, if_pos c4]
            have : k - 277 ≠ h := by omega
            simp [this]
          · rw [if_neg c4, if_neg c4]

/-! ### The 284 cells -/
def tcells (n : NI) (who : Int) (sd : Value) : Array Value := n.cells ++ #[.int .i64 who, sd]
theorem tcells_size (n : NI) (who : Int) (sd : Value) : (tcells n who sd).size = 284 := by simp [tcells, ncells_size]
theorem tcells_lt (n : NI) (who : Int) (sd : Value) (j : Nat) (hj : j < 282) : (tcells n who sd)[j]? = n.cells[j]? := by
  unfold tcells; rw [Array.getElem?_append_left (by rw [ncells_size]; exact hj)]
theorem tcells_who (n : NI) (who : Int) (sd : Value) : (tcells n who sd)[282]? = some (.int .i64 who) := by
  unfold tcells; rw [Array.getElem?_append_right (by rw [ncells_size]; omega), ncells_size]; rfl
theorem tcells_sd (n : NI) (who : Int) (sd : Value) : (tcells n who sd)[283]? = some sd := by
  unfold tcells; rw [Array.getElem?_append_right (by rw [ncells_size]; omega), ncells_size]; rfl
theorem tcells_set {n m : NI} {j : Nat} {v : Value} (h : n.cells.setIfInBounds j v = m.cells) (hj : j < 282) (who : Int) (sd : Value) : (tcells n who sd).setIfInBounds j v = tcells m who sd := by
  unfold tcells; rw [Array.setIfInBounds_append_left (by rw [ncells_size]; exact hj), h]
theorem tcells_set_sd (n : NI) (who : Int) (sd v : Value) : (tcells n who sd).setIfInBounds 283 v = tcells n who v := by
  unfold tcells; rw [Array.setIfInBounds_append_right (by rw [ncells_size]; omega), ncells_size]; rfl

theorem tcells_num (n : NI) (who : Int) (sd : Value) (j : Nat) (hj : j < 7) : (tcells n who sd)[j]? = some (.int .i64 (n.num j)) := by rw [tcells_lt _ _ _ _ (by omega), ncells_num n j hj]
theorem tcells_seen (n : NI) (who : Int) (sd : Value) (r : Nat) (hr : r < 6) : (tcells n who sd)[7 + r]? = some (.bool (n.seen r)) := by rw [tcells_lt _ _ _ _ (by omega), ncells_seen n r hr]
theorem tcells_heard (n : NI) (who : Int) (sd : Value) (h j : Nat) (hh : h < 4) (hj : j < 66) : (tcells n who sd)[13 + h * 66 + j]? = some (cellAt (n.heard h) j) := by rw [tcells_lt _ _ _ _ (by omega), ncells_heard n h j hh hj]
theorem tcells_settled (n : NI) (who : Int) (sd : Value) (h : Nat) (hh : h < 4) : (tcells n who sd)[277 + h]? = some (.int .i64 (n.settled h)) := by rw [tcells_lt _ _ _ _ (by omega), ncells_settled n h hh]
theorem tcells_q (n : NI) (who : Int) (sd : Value) : (tcells n who sd)[281]? = some n.q := by rw [tcells_lt _ _ _ _ (by omega), ncells_q]

/-! ### A row of cells in the middle of a block is stored -/
theorem Blk.setMid_ex {g : Nat} {t : TypeId} : ∀ (vs : List Value) (o : Nat) (W : World) (C : Array Value), Blk W g C t → o + vs.length ≤ C.size →
    ∃ D : Array Value, Blk (W.setCells g o vs) g D t ∧ D.size = C.size ∧ ∀ k, D[k]? = if o ≤ k ∧ k < o + vs.length then vs[k - o]? else C[k]?
  | [], o, W, C, h, _ => ⟨C, h, rfl, fun k => by rw [if_neg (by simp only [List.length_nil]; omega)]⟩
  | v :: vs, o, W, C, h, hs => by
    have hs' : o + (vs.length + 1) ≤ C.size := by simpa using hs
    obtain ⟨D, h1, h2, h3⟩ := Blk.setMid_ex vs (o + 1) (W.setCell ⟨g, o, none⟩ v) (C.setIfInBounds o v) (h.setCell o v) (by simp; omega)
    refine ⟨D, by simpa [World.setCells] using h1, by simpa using h2, fun k => ?_⟩
    rw [h3 k]
    simp only [List.length_cons]
    by_cases c1 : o + 1 ≤ k ∧ k < o + 1 + vs.length
    · rw [if_pos c1, if_pos (by omega), show k - o = (k - (o + 1)) + 1 by omega, List.getElem?_cons_succ]
    · rw [if_neg c1]
      by_cases c2 : o = k
      · subst c2
        rw [if_pos (by omega), Array.getElem?_setIfInBounds, if_pos rfl, if_pos (by omega)]; simp
      · rw [if_neg (by omega), Array.getElem?_setIfInBounds, if_neg c2]
theorem Blk.setMid {W : World} {g : Nat} {C D : Array Value} {t : TypeId} (h : Blk W g C t) (vs : List Value) (o : Nat) (hs : o + vs.length ≤ C.size) (hD : ∀ k, D[k]? = if o ≤ k ∧ k < o + vs.length then vs[k - o]? else C[k]?) : Blk (W.setCells g o vs) g D t := by
  obtain ⟨E, h1, _, h3⟩ := Blk.setMid_ex vs o W C h hs
  have : E = D := Array.ext_getElem? fun k => by rw [h3 k, hD k]
  rw [← this]; exact h1

/-- A whole sheet of a node at work is stored. -/
theorem Blk.setSheet {W : World} {g : Nat} {n : NI} {who : Int} {sd : Value} {t : TypeId} (h : Blk W g (tcells n who sd) t) (k : Nat) (hk : k < 4) (S : Sh) :
    Blk (W.setCells g (13 + k * 66) S.cells.toList) g (tcells { n with heard := fun j => if j = k then S else n.heard j } who sd) t := by
  have hl : S.cells.toList.length = 66 := by rw [Array.length_toList, cells_size]
  refine h.setMid _ _ (by rw [hl, tcells_size]; omega) (fun j => ?_)
  rw [hl]
  by_cases c : 13 + k * 66 ≤ j ∧ j < 13 + k * 66 + 66
  · rw [if_pos c, Array.getElem?_toList, cells_at S _ (by omega)]
    have e : j = 13 + k * 66 + (j - (13 + k * 66)) := by omega
    rw [e, tcells_heard _ _ _ _ _ hk (by omega), show 13 + k * 66 + (j - (13 + k * 66)) - (13 + k * 66) = j - (13 + k * 66) by omega]
    simp
  · rw [if_neg c]
    by_cases c0 : j < 282
    · rw [tcells_lt _ _ _ _ c0, tcells_lt _ _ _ _ c0, ncells_at _ j c0, ncells_at _ j c0]
      congr 1
      by_cases c1 : j < 7
      · rw [ncell_num _ j c1, ncell_num _ j c1]; exact congrArg (Value.int .i64) (num_of _ _ rfl rfl rfl rfl rfl rfl rfl j c1)
      · unfold ncellAt
        rw [if_neg c1, if_neg c1]
        by_cases c2 : j < 13
        · rw [if_pos c2, if_pos c2]
        · rw [if_neg c2, if_neg c2]
          by_cases c3 : j < 277
          · rw [if_pos c3, if_pos c3]
            have : (j - 13) / 66 ≠ k := by omega
            simp [this]
          · rw [if_neg c3, if_neg c3]
    · by_cases c5 : j = 282
      · rw [c5, tcells_who, tcells_who]
      · by_cases c6 : j = 283
        · rw [c6, tcells_sd, tcells_sd]
        · rw [Array.getElem?_eq_none (by rw [tcells_size]; omega), Array.getElem?_eq_none (by rw [tcells_size]; omega)]

theorem Blk.there_mid {W : World} {g : Nat} {C : Array Value} {t : TypeId} (h : Blk W g C t) (o n : Nat) (ho : o + n ≤ C.size) : W.there g o n := fun j hj =>
  ⟨by rw [h.cell (o + j), Array.getElem?_eq_getElem (by omega)]; rfl, h.free (o + j)⟩

/-! ### What a call on a node at work leaves -/
theorem heap_setCells_other {g k : Nat} (hne : k ≠ g) : ∀ (vs : List Value) (o : Nat) (W : World), (W.setCells g o vs).heap[k]? = W.heap[k]?
  | [], _, _ => rfl
  | v :: vs, o, W => by rw [World.setCells, heap_setCells_other hne vs (o + 1), heap_setCell_other W ⟨g, o, none⟩ k v hne]
theorem grown_setCells (W : World) (g o : Nat) (vs : List Value) : W.grownBy (W.setCells g o vs) (some g) := by
  have hb := Below.setCells' (B := g) (a := W) (Nat.le_refl g) vs o W (Below.refl g W)
  exact ⟨hb.os, hb.tape, hb.output, hb.size, fun k _ hne => heap_setCells_other (fun h => hne (by rw [h])) vs o W⟩
theorem grown_setCell (W : World) (g j : Nat) (v : Value) : W.grownBy (W.setCell ⟨g, j, none⟩ v) (some g) := grown_setCells W g j [v]
theorem grown_of_below {w w' : World} (hb : Below w.heap.size w w') (row : Option Nat) : w.grownBy w' row := ⟨hb.os, hb.tape, hb.output, hb.size, fun k hk _ => hb.block k hk⟩
theorem grown_trans {a b c : World} {row : Option Nat} (h : a.grownBy b row) (k : b.grownBy c row) : a.grownBy c row :=
  ⟨k.os.trans h.os, k.tape.trans h.tape, k.output.trans h.output, Nat.le_trans h.size k.size, fun j hj hne => (k.block j (Nat.lt_of_lt_of_le hj h.size) hne).trans (h.block j hj hne)⟩
theorem below_of_grown {g B : Nat} {w w' : World} (h : w.grownBy w' (some g)) (hB : B ≤ g) (hg : B ≤ w.heap.size) : Below B w w' :=
  ⟨h.os, h.tape, h.output, h.size, fun k hk => h.block k (by omega) (fun e => by have := Option.some.inj e; omega)⟩
theorem own_grown {W W' : World} {base g : Nat} {e : TypeId} {size : Nat} {v : Value} {n : Nat} {xs : List Value} (h : W.ownsRow base e size v n xs) (K : W.grownBy W' (some g)) (hg : g < base) : W'.ownsRow base e size v n xs := by
  refine ⟨h.1, ?_⟩
  rcases h.2 with h2 | ⟨g', cap, cur, hv, hb, hh, h3⟩
  · exact Or.inl h2
  · refine Or.inr ⟨g', cap, cur, hv, hb, ?_, h3⟩
    rw [K.block g' (Blk.lt (show Blk W g' cur e from hh)) (fun e => by have := Option.some.inj e; omega)]; exact hh
theorem Blk.grown {W W' : World} {g g' : Nat} {C : Array Value} {t : TypeId} (h : Blk W g' C t) (K : W.grownBy W' (some g)) (hne : g' ≠ g) : Blk W' g' C t := by
  unfold Blk; rw [K.block g' h.lt (fun e => hne (Option.some.inj e))]; exact h
theorem bel_seq {B : Nat} {a b c : World} (h : Below B a b) (k : Below B b c) : Below B a c := ⟨k.os.trans h.os, k.tape.trans h.tape, k.output.trans h.output, Nat.le_trans h.size k.size, fun j hj => (k.block j hj).trans (h.block j hj)⟩

theorem own_block {W : World} {base : Nat} {e : TypeId} {size : Nat} {v : Value} {n : Nat} {xs : List Value} (h : W.ownsRow base e size v n xs) (k : Nat) (hk : v.ownBlock = some k) : base ≤ k ∧ k < W.heap.size ∧ ∃ cur, W.heap[k]? = some (.cells cur e) := by
  rcases h.2 with ⟨rfl, _⟩ | ⟨g, cap, cur, rfl, hb, hh, _⟩
  · cases hk
  · obtain rfl : g = k := by simpa [Value.ownBlock] using hk
    exact ⟨hb, Blk.lt (show Blk W g cur e from hh), cur, hh⟩

/-- A row of other elements is as it was, where a row grows. -/
theorem own_apart {W W' : World} {base base' : Nat} {e e' : TypeId} {size size' : Nat} {v v' : Value} {n n' : Nat} {xs xs' : List Value} (h : W.ownsRow base e size v n xs) (h' : W.ownsRow base' e' size' v' n' xs') (hne : e ≠ e') (K : W.grownBy W' v'.ownBlock) : W'.ownsRow base e size v n xs := by
  refine ⟨h.1, ?_⟩
  rcases h.2 with h2 | ⟨g, cap, cur, hv, hb, hh, h3⟩
  · exact Or.inl h2
  · refine Or.inr ⟨g, cap, cur, hv, hb, ?_, h3⟩
    rw [K.block g (Blk.lt (show Blk W g cur e from hh)) (fun hk => ?_)]
    · exact hh
    · obtain ⟨_, _, cur', hc⟩ := own_block h' g hk.symm
      rw [hh] at hc
      injection hc with hc
      injection hc with h1 h2
      exact hne h2
theorem below_own {W W' : World} {base B : Nat} {e : TypeId} {size : Nat} {v : Value} {n : Nat} {xs : List Value} (h : W.ownsRow base e size v n xs) (K : W.grownBy W' v.ownBlock) (hB : B ≤ base) (hW : B ≤ W.heap.size) : Below B W W' :=
  ⟨K.os, K.tape, K.output, K.size, fun k hk => K.block k (by omega) (fun hk' => by have := (own_block h k hk'.symm).1; omega)⟩

/-- The cells of words. -/
def wdCells (w : Wd) : List Value := [.int .i64 w.k, .int .i64 w.f, .int .i64 w.h, .int .i64 w.r, .int .i64 w.v, .int .i64 w.x]
def wdsCells (l : List Wd) : List Value := l.flatMap wdCells
theorem wdsCells_length (l : List Wd) : (wdsCells l).length = l.length * 6 := by
  induction l with
  | nil => rfl
  | cons a l ih => simp [wdsCells, wdCells] at ih ⊢; omega

/-- The block g holds a node at work: its numbers, its queue's and its words' rows of its own. -/
structure St (w : World) (g : Nat) (t : TypeId) (who : Nat) (a : At) (q sd : Value) : Prop where
  blk : Blk w g (tcells (a.n.ni q) who sd) t
  own : w.ownsRow (g + 1) 3 1 q a.n.queue.length (a.n.queue.map (Value.int .i64))
  said : w.ownsRow (g + 1) 36 6 sd a.words.length (wdsCells a.words)
end Go.Proofs.YtmmgaonlmpajbacGreat
namespace Go.Proofs.YtmmgaonlmpajbacGreat
open Go.RowKit

theorem infoS (S : Sh) : (Tryz.prog.info? 46).map (·.size) = some S.cells.size := by rw [cells_size]; kernel_rfl
theorem info_word : (Tryz.prog.info? 36).map (·.size) = some 6 := by kernel_rfl

set_option maxRecDepth 100000 in
theorem tsheet_any {w : World} {g : Nat} {n : Nd} {q sd : Value} {who : Int} (B : Blk w g (tcells (n.ni q) who sd) 92) (hh : n.height < 4) :
    Calls Tryz.prog 58 #[.pointer (some ⟨g, 0, none⟩)] w fun e w' => e = .returned (.pointer (some ⟨g, 13 + n.height * 66, none⟩)) ∧ Below w.heap.size w w' := by
  have e0 := B.cell 0
  rw [tcells_num _ _ _ 0 (by omega)] at e0
  simp only [NI.num, Nd.ni] at e0
  go_enter Tryz.func58, Tryz.ntmps58
  go_wp2_with fail
  go_quiet (fail)
  go_wp2
  go_ret
  exact ⟨rfl, below_drewN' (Below.refl _ _) _⟩

/-- The cells of a word. -/
def wdA (v : Wd) : Array Value := #[.int .i64 v.k, .int .i64 v.f, .int .i64 v.h, .int .i64 v.r, .int .i64 v.v, .int .i64 v.x]

/-- What holds while the node hears a word: its own block, the word's, and all that was there. -/
def HeldT (w : World) (g b : Nat) (C D : Array Value) (W : World) : Prop := Blk W g C 92 ∧ Blk W b D 36 ∧ Below w.heap.size w W

set_option maxRecDepth 100000 in
set_option maxHeartbeats 2000000 in
theorem thear_any {w : World} {g : Nat} {n : Nd} {q sd : Value} {who : Int} (B : Blk w g (tcells (n.ni q) who sd) 92) (v : Wd) (h : Nat) (hv : v.h = (h : Int)) (hh : h < 4) :
    Calls Tryz.prog 77 #[.pointer (some ⟨g, 0, none⟩), .agg #[.int .i64 v.k, .int .i64 v.f, .int .i64 (h : Int), .int .i64 v.r, .int .i64 v.v, .int .i64 v.x]] w fun e w' => e = .returned (.tuple #[]) ∧ Blk w' g (tcells ((n.setSheet h (hearW (n.heard h) v)).ni q) who sd) 92 ∧ w.grownBy w' (some g) := by
  obtain ⟨k, f, h', r, y, x⟩ := v
  obtain rfl : h' = (h : Int) := hv
  have hi := infoS (n.heard h)
  have hi2 := infoS (hearS (n.heard h) k f h r y x)
  have hw6 := info_word
  have HS : HeldT w g w.heap.size (tcells (n.ni q) who sd) #[.int .i64 k, .int .i64 f, .int .i64 (h : Int), .int .i64 r, .int .i64 y, .int .i64 x] (w.alloc (.cells #[.int .i64 k, .int .i64 f, .int .i64 (h : Int), .int .i64 r, .int .i64 y, .int .i64 x] 36)) :=
    ⟨B.alloc _, Blk.new w _ _, by go_grown⟩
  have hone : (hearS (n.heard h) k f h r y x).cells.all (·.oneCell') = true := one_cell _
  have hglt := B.lt
  have hhi : (h : Int) < 4 := by omega
  clear B
  go_enter Tryz.func77, Tryz.ntmps77
  go_wp2_with fail
  refine held_region (HeldT w g w.heap.size (tcells (n.ni q) who sd) #[.int .i64 k, .int .i64 f, .int .i64 (h : Int), .int .i64 r, .int .i64 y, .int .i64 x]) [17] [(0, 0), (1, 0), (2, 1), (3, 0), (4, 0), (5, 1), (6, 0), (7, 0), (8, 0), (9, 0), (10, 1), (11, 1), (13, 0), (14, 0), (15, 0), (12, 2), (16, 0), (17, 2)] (by kernel_rfl) (by kernel_rfl) (by kernel_rfl) rfl (fun _ _ d _ _ h => by cases d <;> exact h) ⟨HS.1.drew, HS.2.1.drew, below_drew' HS.2.2⟩ ?_
  repeat (first
    | (refine ord_load rfl (by rfl) 46 _ rfl g (13 + h * 66) rfl (n.heard h).cells _ (fun W H => heard_range H.1 (n.heard h) (fun j hj => tcells_heard _ _ _ h j hh hj)) Tryz.underlying46 rfl hi ?_; simp only [Act.put, List.setIfInBounds_toArray, List.set_cons_zero, List.set_cons_succ])
    | (refine ord_load rfl (by rfl) 36 _ rfl w.heap.size 0 rfl #[.int .i64 k, .int .i64 f, .int .i64 (h : Int), .int .i64 r, .int .i64 y, .int .i64 x] _ (fun W H => H.2.1.range) Tryz.underlying36 rfl hw6 ?_; simp only [Act.put, List.setIfInBounds_toArray, List.set_cons_zero, List.set_cons_succ])
    | (refine ord_run0_ex rfl (by rfl) ?_
       apply Exists.intro
       refine ⟨fun w0 => ?_, ?_⟩
       · go_simp; first | rfl | (rw [if_pos hhi])
       simp only [Act.put, List.setIfInBounds_toArray, List.set_cons_zero, List.set_cons_succ])
    | (refine ord_run1_ex rfl (by rfl) ?_
       apply Exists.intro
       refine ⟨fun w0 hC => ?_, ?_⟩
       · have e2 := hC.2.1.cell 2; simp only [List.getElem?_toArray, List.getElem?_cons_succ, List.getElem?_cons_zero] at e2; clear hC; go_simp; rfl
       simp only [Act.put, List.setIfInBounds_toArray, List.set_cons_zero, List.set_cons_succ]))
  refine ord_call_ex rfl (by rfl) ?_
  apply Exists.intro
  apply Exists.intro
  refine ⟨?_, ?_⟩
  · go_simp; exact ⟨rfl, rfl⟩
  refine (vhear_any (n.heard h) k f h r y x _).mono ?_
  rintro e w1 ⟨rfl, hb1⟩
  have H1 : HeldT w g w.heap.size (tcells (n.ni q) who sd) #[.int .i64 k, .int .i64 f, .int .i64 (h : Int), .int .i64 r, .int .i64 y, .int .i64 x] w1 := ⟨HS.1.drew.below hb1, HS.2.1.drew.below hb1, bel_trans (below_drew' HS.2.2) hb1⟩
  refine ⟨_, rfl, fun _ => H1, ?_⟩
  simp only [Act.put, List.setIfInBounds_toArray, List.set_cons_zero, List.set_cons_succ]
  refine ord_run0_ex rfl (by rfl) ?_
  apply Exists.intro
  refine ⟨fun w0 => ?_, ?_⟩
  · go_simp; rfl
  simp only [Act.put, List.setIfInBounds_toArray, List.set_cons_zero, List.set_cons_succ]
  refine ord_step rfl (by rfl) ?_
  refine wp_store_mid _ _ _ rfl g (13 + h * 66) (hearS (n.heard h) k f h r y x).cells rfl rfl (H1.1.there_mid _ _ (by rw [tcells_size, cells_size]; omega)) hi2 hone ?_
  refine ⟨fun hc => absurd hc (by decide), ?_⟩
  have B2 := H1.1.setSheet h hh (hearS (n.heard h) k f h r y x)
  have G2 : w.grownBy (w1.setCells g (13 + h * 66) (hearS (n.heard h) k f h r y x).cells.toList) (some g) := grown_trans (grown_of_below H1.2.2 _) (grown_setCells w1 g _ _)
  generalize (w1.setCells g (13 + h * 66) (hearS (n.heard h) k f h r y x).cells.toList) = w2 at B2 G2 ⊢
  show wpOrd _ _ _ _ _ [] _ _ _
  unfold wpOrd
  go_wp2
  go_end0
  exact ⟨rfl, B2, G2⟩
end Go.Proofs.YtmmgaonlmpajbacGreat
namespace Go.Proofs.YtmmgaonlmpajbacGreat
open Go.RowKit

theorem info_wd : ∃ i, Tryz.prog.info? 36 = some i ∧ i.zero = some (.agg #[.int .i64 0, .int .i64 0, .int .i64 0, .int .i64 0, .int .i64 0, .int .i64 0]) ∧ i.size = 6 ∧ i.bytes = 48 := by
  have h : (Tryz.prog.info? 36).map (fun i => (i.zero, i.size, i.bytes)) = some (some (.agg #[.int .i64 0, .int .i64 0, .int .i64 0, .int .i64 0, .int .i64 0, .int .i64 0]), 6, 48) := by kernel_rfl
  cases hq : Tryz.prog.info? 36 with
  | none => simp [hq] at h
  | some i =>
    simp [hq] at h
    exact ⟨i, rfl, h.1, h.2.1, h.2.2⟩

/-- What holds as the word is made: the node's block, and all that was there. -/
def HeldN (w : World) (g : Nat) (C : Array Value) (W : World) : Prop := Blk W g C 92 ∧ Below w.heap.size w W

set_option maxRecDepth 100000 in
set_option maxHeartbeats 4000000 in
theorem tsay_any {w : World} {g who : Nat} {a : At} {q sd : Value} (H : St w g 92 who a q sd) (hh : a.n.height < 4) (hlen : a.words.length < 100000) (kind value valid : Int) :
    Calls Tryz.prog 76 #[.pointer (some ⟨g, 0, none⟩), .int .i64 kind, .int .i64 value, .int .i64 valid] w fun e w' => e = .returned (.tuple #[]) ∧ ∃ sd', St w' g 92 who (tell who a kind value valid) q sd' ∧ Below g w w' := by
  obtain ⟨sa, sc, hsd⟩ := own_shape H.said
  subst hsd
  have B := H.blk
  have HS : HeldN w g (tcells (a.n.ni q) who (.slice sa a.words.length sc)) w := ⟨B, Below.refl _ _⟩
  have hglt := B.lt
  have hw6 := info_word
  have cc : ∀ W : World, HeldN w g (tcells (a.n.ni q) who (.slice sa a.words.length sc)) W → W.cell? ⟨g, 0, none⟩ = some (.int .i64 (a.n.height : Int)) ∧ W.cell? ⟨g, 1, none⟩ = some (.int .i64 (a.n.round : Int)) ∧ W.cell? ⟨g, 282, none⟩ = some (.int .i64 (who : Int)) := fun W hC =>
    ⟨by rw [hC.1.cell 0, tcells_num _ _ _ 0 (by omega)]; rfl, by rw [hC.1.cell 1, tcells_num _ _ _ 1 (by omega)]; rfl, by rw [hC.1.cell 282, tcells_who]⟩
  go_enter Tryz.func76, Tryz.ntmps76
  go_wp2_with fail
  refine held_region (HeldN w g (tcells (a.n.ni q) who (.slice sa a.words.length sc))) [] [(0, 0), (1, 0), (2, 0), (3, 0), (4, 1), (5, 0), (6, 0), (7, 0), (8, 0), (9, 1), (10, 0), (11, 0), (12, 0), (13, 0), (14, 1), (15, 0), (16, 0), (17, 0), (18, 2), (19, 2)] (by kernel_rfl) (by kernel_rfl) (by kernel_rfl) rfl (fun _ _ d _ _ h => by cases d <;> exact h) ⟨HS.1.drew, below_drew' HS.2⟩ ?_
  repeat (first
    | (refine ord_run0_ex rfl (by rfl) ?_
       apply Exists.intro
       refine ⟨fun w0 => ?_, ?_⟩
       · go_simp; rfl
       simp only [Act.put, List.setIfInBounds_toArray, List.set_cons_zero, List.set_cons_succ])
    | (refine ord_run1_ex rfl (by rfl) ?_
       apply Exists.intro
       refine ⟨fun w0 hC => ?_, ?_⟩
       · obtain ⟨e0, e1, e2⟩ := cc w0 hC; clear hC; go_simp; rfl
       simp only [Act.put, List.setIfInBounds_toArray, List.set_cons_zero, List.set_cons_succ]))
  refine ord_do rfl ?_
  go_wp2_with fail
  refine ⟨fun _ => ⟨(B.alloc _).drew, below_drew' (by go_grown)⟩, ?_⟩
  refine ord_do rfl ?_
  go_wp2_with fail
  refine ⟨fun _ => ⟨(B.alloc _).drew, below_drew' (by go_grown)⟩, ?_⟩
  show wpOrd _ _ _ _ _ [] _ _ _
  unfold wpOrd
  obtain ⟨W1, hW1⟩ : ∃ W1, W1 = (w.alloc (.cells #[.int .i64 kind, .int .i64 (who : Int), .int .i64 (a.n.height : Int), .int .i64 (a.n.round : Int), .int .i64 value, .int .i64 valid] 36)).drew := ⟨_, rfl⟩
  have B1 : Blk W1 g (tcells (a.n.ni q) who (.slice sa a.words.length sc)) 92 := by rw [hW1]; exact (B.alloc _).drew
  have D1 : Blk W1 w.heap.size #[.int .i64 kind, .int .i64 (who : Int), .int .i64 (a.n.height : Int), .int .i64 (a.n.round : Int), .int .i64 value, .int .i64 valid] 36 := by rw [hW1]; exact (Blk.new w _ _).drew
  have L1 : Below w.heap.size w W1 := by rw [hW1]; exact below_drew' (by go_grown)
  rw [← hW1]
  clear hW1
  go_wp2_with (first | (refine wpList_load_blk rfl 36 _ rfl w.heap.size rfl 36 _ _ D1 Tryz.underlying36 rfl hw6 ?_))
  refine (thear_any B1 (sayW who a.n kind value valid) a.n.height rfl hh).mono ?_
  rintro e w2 ⟨rfl, B2, G2⟩
  have D2 := D1.grown G2 (by omega)
  have O2 := own_grown (own_below H.own L1) G2 (by omega)
  have S2 := own_grown (own_below H.said L1) G2 (by omega)
  have L2 : Below g w w2 := bel_seq (L1.mono (by omega)) (below_of_grown G2 (Nat.le_refl _) (by have := L1.size; omega))
  have hsz2 : w.heap.size < w2.heap.size := D2.lt
  clear D1 B1 L1 G2
  obtain ⟨i0, hi, hz0, hz1, hz2⟩ := info_wd
  go_wp2_with fail
  refine held_region (fun W => Blk W g (tcells ((a.n.setSheet a.n.height (hearW (a.n.heard a.n.height) (sayW who a.n kind value valid))).ni q) who (.slice sa a.words.length sc)) 92 ∧ Blk W w.heap.size #[.int .i64 kind, .int .i64 (who : Int), .int .i64 (a.n.height : Int), .int .i64 (a.n.round : Int), .int .i64 value, .int .i64 valid] 36) [10] [(0, 0), (1, 0), (2, 0), (3, 0), (4, 1), (5, 1), (6, 2), (7, 2), (8, 0), (9, 0), (10, 2)] (by kernel_rfl) (by kernel_rfl) (by kernel_rfl) rfl (fun _ _ d _ _ h => by cases d <;> exact h) ⟨B2.drew, D2.drew⟩ ?_
  repeat (first
    | (refine ord_run0_ex rfl (by rfl) ?_
       apply Exists.intro
       refine ⟨fun w0 => ?_, ?_⟩
       · go_simp; rfl
       simp only [Act.put, List.setIfInBounds_toArray, List.set_cons_zero, List.set_cons_succ])
    | (refine ord_load rfl (by rfl) 36 _ rfl w.heap.size 0 rfl #[.int .i64 kind, .int .i64 (who : Int), .int .i64 (a.n.height : Int), .int .i64 (a.n.round : Int), .int .i64 value, .int .i64 valid] _ (fun W H => H.2.range) Tryz.underlying36 rfl hw6 ?_; simp only [Act.put, List.setIfInBounds_toArray, List.set_cons_zero, List.set_cons_succ])
    | (refine ord_run1_ex rfl (by rfl) ?_
       apply Exists.intro
       refine ⟨fun w0 hC => ?_, ?_⟩
       · have e0 := hC.1.cell 283; rw [tcells_sd] at e0; clear hC; go_simp; rfl
       simp only [Act.put, List.setIfInBounds_toArray, List.set_cons_zero, List.set_cons_succ]))
  refine ord_do rfl ?_
  go_wp2_with fail
  refine ⟨fun _ => ⟨(B2.alloc _).drew, (D2.alloc _).drew⟩, ?_⟩
  obtain ⟨W3, hW3⟩ : ∃ W3, W3 = (w2.alloc (.cells #[.int .i64 kind, .int .i64 (who : Int), .int .i64 (a.n.height : Int), .int .i64 (a.n.round : Int), .int .i64 value, .int .i64 valid] 36)).drew := ⟨_, rfl⟩
  have B3 := B2.alloc (.cells #[.int .i64 kind, .int .i64 (who : Int), .int .i64 (a.n.height : Int), .int .i64 (a.n.round : Int), .int .i64 value, .int .i64 valid] 36)
  have D3 := D2.alloc (.cells #[.int .i64 kind, .int .i64 (who : Int), .int .i64 (a.n.height : Int), .int .i64 (a.n.round : Int), .int .i64 value, .int .i64 valid] 36)
  have N3 : Blk W3 w2.heap.size #[.int .i64 kind, .int .i64 (who : Int), .int .i64 (a.n.height : Int), .int .i64 (a.n.round : Int), .int .i64 value, .int .i64 valid] 36 := by rw [hW3]; exact (Blk.new w2 _ _).drew
  replace B3 := B3.drew
  replace D3 := D3.drew
  rw [← hW3] at B3 D3
  have L3 : Below w2.heap.size w2 W3 := by rw [hW3]; exact below_drew' (by go_grown)
  have O3 := own_below O2 L3
  have S3 := own_below S2 L3
  have hnews : ∀ (j : Nat) (u : Value), (wdCells (sayW who a.n kind value valid))[j]? = some u → W3.cell? ((⟨w2.heap.size, 0, none⟩ : Addr).add j) = some u := fun j u hu => by
    rw [Addr.add_mid, Nat.zero_add, N3.cell j]
    simpa [wdCells, sayW] using hu
  have hone : ∀ u : Value, u ∈ wdCells (sayW who a.n kind value valid) → u.oneCell' = true := fun u hu => by
    simp only [wdCells, List.mem_cons, List.not_mem_nil, or_false] at hu
    rcases hu with rfl | rfl | rfl | rfl | rfl | rfl <;> rfl
  have h63 : a.words.length + 1 ≤ maxLen := by unfold maxLen; omega
  have hsz3 := L3.size
  rw [← hW3]
  clear hW3 N3 B2 D2 O2 S2
  refine ord_do rfl ?_
  refine wpList_append_own _ rfl _ _ 73 rfl (g + 1) 36 i0 _ 6 48 Tryz.underlying73 hi hz0 hz1 hz2 rfl (by decide) (.slice sa a.words.length sc) a.words.length (wdsCells a.words) rfl S3 ⟨w2.heap.size, 0, none⟩ 1 1 (wdCells (sayW who a.n kind value valid)) rfl rfl hnews hone h63 (by omega) (by omega) ?_
  intro v' w4 hown hgrow hnil
  obtain ⟨sb, sc', hv⟩ := own_shape hown
  subst hv
  have hg1 : some g ≠ (Value.slice sa a.words.length sc).ownBlock := fun h => by have := (own_block S3 g h.symm).1; omega
  have hg2 : some w.heap.size ≠ (Value.slice sa a.words.length sc).ownBlock := fun h => by have := (own_block H.said w.heap.size h.symm).2.1; omega
  have B4 := blk_grown B3 hgrow hg1
  have D4 := blk_grown D3 hgrow hg2
  refine ⟨fun _ => ⟨B4, D4⟩, ?_⟩
  simp only [Act.put, List.setIfInBounds_toArray, List.set_cons_zero, List.set_cons_succ]
  repeat (first
    | (refine ord_run0_ex rfl (by rfl) ?_
       apply Exists.intro
       refine ⟨fun w0 => ?_, ?_⟩
       · go_simp; rfl
       simp only [Act.put, List.setIfInBounds_toArray, List.set_cons_zero, List.set_cons_succ]))
  have e4 := B4.cell 283
  have f4 := B4.free 283
  rw [tcells_sd] at e4
  refine ord_do rfl ?_
  go_wp2_with fail
  refine ⟨fun hc => absurd hc (by decide), ?_⟩
  show wpOrd _ _ _ _ _ [] _ _ _
  unfold wpOrd
  go_wp2
  go_end0
  have B5 := B4.setCell 283 (.slice sb (a.words.length + 1) sc')
  rw [tcells_set_sd] at B5
  have hw : wdsCells (a.words ++ [sayW who a.n kind value valid]) = wdsCells a.words ++ wdCells (sayW who a.n kind value valid) := by simp [wdsCells]
  refine ⟨rfl, _, ⟨B5, ?_, ?_⟩, ?_⟩
  · exact own_grown (own_apart O3 S3 (by decide) hgrow) (grown_setCell _ _ _ _) (by omega)
  · have h5 := own_grown hown (grown_setCell w4 g 283 (.slice sb (a.words.length + 1) sc')) (by omega)
    show World.ownsRow _ _ _ _ _ (a.words ++ [sayW who a.n kind value valid]).length (wdsCells (a.words ++ [sayW who a.n kind value valid]))
    rw [hw, List.length_append]
    exact h5
  · exact bel_seq (bel_seq L2 (L3.mono (by omega))) (bel_seq (below_own S3 hgrow (by omega) (by omega)) (below_of_grown (grown_setCell _ _ _ _) (Nat.le_refl _) (by have := hgrow.size; omega)))
end Go.Proofs.YtmmgaonlmpajbacGreat
namespace Go.Proofs.YtmmgaonlmpajbacGreat
open Go.RowKit

theorem St.below {W W' : World} {g who : Nat} {t : TypeId} {a : At} {q sd : Value} (H : St W g t who a q sd) (hb : Below W.heap.size W W') : St W' g t who a q sd :=
  ⟨H.blk.below hb, own_below H.own hb, own_below H.said hb⟩
theorem St.drew {W : World} {g who : Nat} {t : TypeId} {a : At} {q sd : Value} (H : St W g t who a q sd) : St W.drew g t who a q sd := ⟨H.blk.drew, H.own, H.said⟩
theorem St.drewN {W : World} {g who : Nat} {t : TypeId} {a : At} {q sd : Value} (H : St W g t who a q sd) (k : Nat) : St (W.drewN k) g t who a q sd := ⟨H.blk.drewN k, H.own, H.said⟩
theorem St.lt {W : World} {g who : Nat} {t : TypeId} {a : At} {q sd : Value} (H : St W g t who a q sd) : g < W.heap.size := H.blk.lt
/-- One cell of the node is stored. -/
theorem St.put {W : World} {g who : Nat} {t : TypeId} {a : At} {q sd : Value} (H : St W g t who a q sd) {j : Nat} {v : Value} (n' : Nd) (hj : j < 282) (h : (a.n.ni q).cells.setIfInBounds j v = (n'.ni q).cells) (hq : n'.queue = a.n.queue) : St (W.setCell ⟨g, j, none⟩ v) g t who ⟨n', a.words⟩ q sd := by
  have B := H.blk.setCell j v
  rw [tcells_set h hj] at B
  refine ⟨B, ?_, own_grown H.said (grown_setCell _ _ _ _) (by omega)⟩
  show World.ownsRow _ _ _ _ _ n'.queue.length (n'.queue.map _)
  rw [hq]
  exact own_grown H.own (grown_setCell _ _ _ _) (by omega)
theorem bel_put {w W : World} {g : Nat} (h : Below g w W) (j : Nat) (v : Value) : Below g w (W.setCell ⟨g, j, none⟩ v) := h.setCell (Nat.le_refl _) v

theorem Blk.tnums {W : World} {g who : Nat} {t : TypeId} {n : Nd} {q sd : Value} (B : Blk W g (tcells (n.ni q) who sd) t) :
    W.cell? ⟨g, 0, none⟩ = some (.int .i64 (n.height : Int)) ∧ W.cell? ⟨g, 1, none⟩ = some (.int .i64 (n.round : Int)) ∧ W.cell? ⟨g, 2, none⟩ = some (.int .i64 (n.step : Int)) ∧ W.cell? ⟨g, 3, none⟩ = some (.int .i64 n.bound) ∧ W.cell? ⟨g, 4, none⟩ = some (.int .i64 n.boundIn) ∧ W.cell? ⟨g, 5, none⟩ = some (.int .i64 n.valid) ∧ W.cell? ⟨g, 6, none⟩ = some (.int .i64 n.validIn) ∧ W.cell? ⟨g, 281, none⟩ = some q ∧ W.cell? ⟨g, 282, none⟩ = some (.int .i64 (who : Int)) :=
  ⟨by rw [B.cell 0, tcells_num _ _ _ 0 (by omega)]; rfl, by rw [B.cell 1, tcells_num _ _ _ 1 (by omega)]; rfl, by rw [B.cell 2, tcells_num _ _ _ 2 (by omega)]; rfl, by rw [B.cell 3, tcells_num _ _ _ 3 (by omega)]; rfl, by rw [B.cell 4, tcells_num _ _ _ 4 (by omega)]; rfl, by rw [B.cell 5, tcells_num _ _ _ 5 (by omega)]; rfl, by rw [B.cell 6, tcells_num _ _ _ 6 (by omega)]; rfl, by rw [B.cell 281, tcells_q]; rfl, by rw [B.cell 282, tcells_who]⟩
theorem Blk.tcall {W : World} {g who : Nat} {t : TypeId} {n : Nd} {q sd : Value} (B : Blk W g (tcells (n.ni q) who sd) t) (h r : Nat) (hh : h < 4) (hr : r < 6) :
    W.cell? ⟨g, 13 + h * 66 + r * 3, none⟩ = some (.bool ((n.heard h).is r)) ∧ W.cell? ⟨g, 13 + h * 66 + r * 3 + 1, none⟩ = some (.int .i64 ((n.heard h).val r)) ∧ W.cell? ⟨g, 13 + h * 66 + r * 3 + 2, none⟩ = some (.int .i64 ((n.heard h).vld r)) := by
  refine ⟨?_, ?_, ?_⟩
  · rw [B.cell, tcells_heard _ _ _ h (r * 3) hh (by omega), cellAt_is _ r hr]; rfl
  · rw [B.cell, Nat.add_assoc (13 + h * 66), tcells_heard _ _ _ h (r * 3 + 1) hh (by omega), cellAt_val _ r hr]; rfl
  · rw [B.cell, Nat.add_assoc (13 + h * 66), tcells_heard _ _ _ h (r * 3 + 2) hh (by omega), cellAt_vld _ r hr]; rfl
theorem Blk.tcallR {W : World} {g who : Nat} {t : TypeId} {n : Nd} {q sd : Value} (B : Blk W g (tcells (n.ni q) who sd) t) (h r : Nat) (hh : h < 4) (hr : r < 6) :
    W.rangeAt g (13 + h * 66 + r * 3) [.bool ((n.heard h).is r), .int .i64 ((n.heard h).val r), .int .i64 ((n.heard h).vld r)] := by
  obtain ⟨h1, h2, h3⟩ := B.tcall h r hh hr
  intro j u hu
  have hj : j < 3 := by
    by_cases hlt : j < 3
    · exact hlt
    · rw [List.getElem?_eq_none (by simp; omega)] at hu; cases hu
  have hc : j = 0 ∨ j = 1 ∨ j = 2 := by omega
  rcases hc with rfl | rfl | rfl
  · simpa using h1.trans (by simpa using hu)
  · exact h2.trans (by simpa using hu)
  · exact h3.trans (by simpa using hu)
theorem Blk.twi {W : World} {g who : Nat} {t : TypeId} {n : Nd} {q sd : Value} (B : Blk W g (tcells (n.ni q) who sd) t) (h r : Nat) (hh : h < 4) (hr : r < 6) : W.rangeAt g (13 + h * 66 + 18 + r * 4) (vcells ((n.heard h).wi r)).toList := by
  intro j u hu
  have hj : j < 4 := by
    by_cases hlt : j < 4
    · exact hlt
    · rw [List.getElem?_eq_none (by simp [vcells]; omega)] at hu; cases hu
  rw [B.cell, show 13 + h * 66 + 18 + r * 4 + j = 13 + h * 66 + (18 + r * 4 + j) by omega, tcells_heard _ _ _ h _ hh (by omega), cellAt_wi _ r j hr hj]
  rw [Array.getElem?_toList, vcells_at _ j hj] at hu
  exact hu
theorem Blk.tpr {W : World} {g who : Nat} {t : TypeId} {n : Nd} {q sd : Value} (B : Blk W g (tcells (n.ni q) who sd) t) (h r : Nat) (hh : h < 4) (hr : r < 6) : W.rangeAt g (13 + h * 66 + 42 + r * 4) (vcells ((n.heard h).pr r)).toList := by
  intro j u hu
  have hj : j < 4 := by
    by_cases hlt : j < 4
    · exact hlt
    · rw [List.getElem?_eq_none (by simp [vcells]; omega)] at hu; cases hu
  rw [B.cell, show 13 + h * 66 + 42 + r * 4 + j = 13 + h * 66 + (42 + r * 4 + j) by omega, tcells_heard _ _ _ h _ hh (by omega), cellAt_pr _ r j hr hj]
  rw [Array.getElem?_toList, vcells_at _ j hj] at hu
  exact hu
theorem infoV (V : Nat → Int) : (Tryz.prog.info? 43).map (·.size) = some (vcells V).size := by simp only [vcells, List.size_toArray, List.length_map, List.length_range]; kernel_rfl
theorem info_call : (Tryz.prog.info? 41).map (·.size) = some 3 := by kernel_rfl

set_option maxHeartbeats 1000000 in
theorem quorum_any (V : Nat → Int) (hV : VBd V) (value : Int) (w : World) :
    Calls Tryz.prog 86 #[.agg (vcells V), .int .i64 value] w fun e w' => e = .returned (.bool (decide (3 ≤ cntV V value))) ∧ Below w.heap.size w w' := by
  go_enter Tryz.func86, Tryz.ntmps86
  go_wp2_with (first
    | (refine wpList_load_row rfl 43 _ rfl w.heap.size rfl 43 (vcells V) (0, 0) _ (heap_alloc_new w _) Tryz.underlying43 rfl (by kernel_rfl) ?_)
    | (go_at_call 98; refine (count_any V hV value _).mono ?_; rintro e w1 ⟨rfl, hb⟩))
  all_goals
    go_ret
    exact ⟨ret_bool (by simp_all), below_past hb⟩

set_option maxHeartbeats 1000000 in
theorem carried_any (p : Bool) (y x : Int) (V : Nat → Int) (hV : VBd V) (w : World) :
    Calls Tryz.prog 83 #[.agg #[.bool p, .int .i64 y, .int .i64 x], .agg (vcells V)] w fun e w' => e = .returned (.bool (p && decide (3 ≤ cntV V y))) ∧ Below w.heap.size w w' := by
  have hi := infoV V
  have B1 : Blk ((w.alloc (.cells #[.bool p, .int .i64 y, .int .i64 x] 41)).alloc (.cells (vcells V) 43)) (w.heap.size + 1) (vcells V) 43 := Blk.new1 w _ _ _
  cases p
  · go_enter Tryz.func83, Tryz.ntmps83
    go_wp2
    go_ret
    exact ⟨rfl, by go_grown⟩
  · go_enter Tryz.func83, Tryz.ntmps83
    go_wp2_with (first
      | (refine wpList_load_part (by rfl) 43 _ rfl (w.heap.size + 1) 0 rfl (vcells V) _ B1.range Tryz.underlying43 rfl hi ?_)
      | (go_at_call 86; refine (quorum_any V hV y _).mono ?_; rintro e w1 ⟨rfl, hb⟩))
    go_ret
    exact ⟨ret_bool (by simp), below_past (below_past hb)⟩

set_option maxHeartbeats 1000000 in
theorem twish_any {w : World} {g who : Nat} {a : At} {q sd : Value} (H : St w g 92 who a q sd) (hh : a.n.height < 4) (hlen : a.words.length < 100000) (value : Int) :
    Calls Tryz.prog 59 #[.pointer (some ⟨g, 0, none⟩), .int .i64 value] w fun e w' => e = .returned (.tuple #[]) ∧ ∃ sd', St w' g 92 who (tell who ⟨{ a.n with step := 1 }, a.words⟩ 2 value 0) q sd' ∧ Below g w w' := by
  obtain ⟨c0, c1, c2, c3, c4, c5, c6, c7, c8⟩ := H.blk.tnums
  have f2 := H.blk.free 2
  have H1 := H.put (j := 2) (v := .int .i64 1) { a.n with step := 1 } (by omega) (set_step _ _) rfl
  have hcon := tsay_any H1 hh hlen 2 value 0
  clear H1
  go_enter Tryz.func59, Tryz.ntmps59
  go_wp2_with (first | (go_at_call 76; refine hcon.mono ?_; rintro e w1 ⟨rfl, sd', H2, L2⟩))
  go_end0
  exact ⟨rfl, sd', H2, bel_seq (bel_put (Below.refl _ _) _ _) L2⟩
set_option maxHeartbeats 1000000 in
theorem tpromise_any {w : World} {g who : Nat} {a : At} {q sd : Value} (H : St w g 92 who a q sd) (hh : a.n.height < 4) (hlen : a.words.length < 100000) (value : Int) :
    Calls Tryz.prog 61 #[.pointer (some ⟨g, 0, none⟩), .int .i64 value] w fun e w' => e = .returned (.tuple #[]) ∧ ∃ sd', St w' g 92 who (tell who ⟨{ a.n with step := 2 }, a.words⟩ 3 value 0) q sd' ∧ Below g w w' := by
  obtain ⟨c0, c1, c2, c3, c4, c5, c6, c7, c8⟩ := H.blk.tnums
  have f2 := H.blk.free 2
  have H1 := H.put (j := 2) (v := .int .i64 2) { a.n with step := 2 } (by omega) (set_step _ _) rfl
  have hcon := tsay_any H1 hh hlen 3 value 0
  clear H1
  go_enter Tryz.func61, Tryz.ntmps61
  go_wp2_with (first | (go_at_call 76; refine hcon.mono ?_; rintro e w1 ⟨rfl, sd', H2, L2⟩))
  go_end0
  exact ⟨rfl, sd', H2, bel_seq (bel_put (Below.refl _ _) _ _) L2⟩
end Go.Proofs.YtmmgaonlmpajbacGreat
namespace Go.Proofs.YtmmgaonlmpajbacGreat
open Go.RowKit

/-- The worlds of a call on a node at work: it lies as a says; below it all is as it was. -/
def InSt (w : World) (g who : Nat) (a : At) (q sd : Value) (W : World) : Prop := St W g 92 who a q sd ∧ Below g w W
theorem InSt.keep {w W W' : World} {g who : Nat} {a : At} {q sd : Value} (h : InSt w g who a q sd W) (hb : Below W.heap.size W W') : InSt w g who a q sd W' :=
  ⟨h.1.below hb, bel_seq h.2 (hb.mono (Nat.le_of_lt h.1.lt))⟩
theorem InSt.drew {w W : World} {g who : Nat} {a : At} {q sd : Value} (h : InSt w g who a q sd W) : InSt w g who a q sd W.drew := ⟨h.1.drew, below_drew' h.2⟩

/-- It comes to a round. -/
def cameTo (a : At) (r : Nat) : At := ⟨{ a.n with round := r, step := 0 }, a.words⟩
theorem enter_stays {who : Nat} {a : At} {r : Nat} (h : lead a.n.height r ≠ who ∨ a.n.sheet.is r = true) : enter who a r = cameTo a r := by
  simp only [enter]
  exact if_pos (Or.inr h)
theorem enter_not {who : Nat} {a : At} {r : Nat} (hh : a.n.height < 4) (h1 : lead a.n.height r = who) (h2 : a.n.sheet.is r = false) : ¬ (a.n.height = 4 ∨ lead a.n.height r ≠ who ∨ a.n.sheet.is r = true) := by
  rintro (h | h | h)
  · omega
  · exact h h1
  · rw [h2] at h; cases h
theorem enter_valid {who : Nat} {a : At} {r : Nat} (hh : a.n.height < 4) (h1 : lead a.n.height r = who) (h2 : a.n.sheet.is r = false) (h3 : 0 ≤ a.n.validIn) : enter who a r = tell who (cameTo a r) 1 a.n.valid a.n.validIn := by
  simp only [enter]
  exact (if_neg (enter_not hh h1 h2)).trans (if_pos h3)
theorem enter_none {who : Nat} {a : At} {r : Nat} (hh : a.n.height < 4) (h1 : lead a.n.height r = who) (h2 : a.n.sheet.is r = false) (h3 : a.n.validIn = -1) (h4 : a.n.queue = []) : enter who a r = cameTo a r := by
  simp only [enter]
  refine (if_neg (enter_not hh h1 h2)).trans ((if_neg (by omega)).trans ?_)
  split
  · rfl
  · rename_i h; rw [h4] at h; cases h
theorem enter_first {who : Nat} {a : At} {r : Nat} (hh : a.n.height < 4) (h1 : lead a.n.height r = who) (h2 : a.n.sheet.is r = false) (h3 : a.n.validIn = -1) (y : Int) (ys : List Int) (h4 : a.n.queue = y :: ys) : enter who a r = tell who (cameTo a r) 1 y (-1) := by
  simp only [enter]
  refine (if_neg (enter_not hh h1 h2)).trans ((if_neg (by omega)).trans ?_)
  split
  · rename_i h; rw [h4] at h; cases h
  · rename_i h; rw [h4] at h; obtain ⟨rfl, rfl⟩ := List.cons.inj h; rfl

set_option maxRecDepth 100000 in
set_option maxHeartbeats 4000000 in
theorem tenter_other {w : World} {g who : Nat} {a : At} {qa : Option Addr} {qc ql : Nat} {sd : Value} (H : St w g 92 who a (.slice qa ql qc) sd) (hh : a.n.height < 4) (r : Nat) (hr : r < 6) (_hlen : a.words.length < 100000) (hl : lead a.n.height r ≠ who) :
    Calls Tryz.prog 54 #[.pointer (some ⟨g, 0, none⟩), .int .i64 (r : Int)] w fun e w' => e = .returned (.tuple #[]) ∧ ∃ sd', St w' g 92 who (enter who a r) (.slice qa ql qc) sd' ∧ Below g w w' := by
  obtain ⟨c0, c1, c2, c3, c4, c5, c6, c7, c8⟩ := H.blk.tnums
  have f1 := H.blk.free 1
  have f2 := H.blk.free 2
  have H1 := (H.put (j := 1) (v := .int .i64 (r : Int)) { a.n with round := r } (by omega) (set_round _ _) rfl).put (j := 2) (v := .int .i64 0) (cameTo a r).n (by omega) (set_step _ _) rfl
  have L1 : Below g w ((w.setCell ⟨g, 1, none⟩ (.int .i64 (r : Int))).setCell ⟨g, 2, none⟩ (.int .i64 0)) := bel_put (bel_put (Below.refl _ _) _ _) _ _
  have hri : (r : Int) < 6 := by omega
  have hhi : (a.n.height : Int) < 4 := by omega
  have hsheet : ∀ W, InSt w g who (cameTo a r) (.slice qa ql qc) sd W → Calls Tryz.prog 58 #[.pointer (some ⟨g, 0, none⟩)] W fun e w' => e = .returned (.pointer (some ⟨g, 13 + a.n.height * 66, none⟩)) ∧ InSt w g who (cameTo a r) (.slice qa ql qc) sd w' := fun W hC => (tsheet_any hC.1.blk hh).mono (fun e w' ⟨he, hb⟩ => ⟨he, hC.keep hb⟩)
  have hlead : ∀ W, Calls Tryz.prog 75 #[.int .i64 (a.n.height : Int), .int .i64 (r : Int)] W fun e w' => e = .returned (.int .i64 (lead a.n.height r)) ∧ w' = W := fun W => leader_any _ _ W
  have he : Hid (enter who a r = cameTo a r) := enter_stays (Or.inl hl)
  generalize lead a.n.height r = L at hl hlead
  have hlb : (L != (who : Int)) = true := by simpa using hl
  clear hl
  go_enter Tryz.func54, Tryz.ntmps54
  go_wp2_with fail
  clear c0 c1 c2 c3 c4 c5 c6 c7 c8 f1 f2
  generalize (w.setCell ⟨g, 1, none⟩ (.int .i64 (r : Int))).setCell ⟨g, 2, none⟩ (.int .i64 0) = W1 at H1 L1 ⊢
  have hC1 : InSt w g who (cameTo a r) (.slice qa ql qc) sd W1 := ⟨H1, L1⟩
  clear H1 L1
  refine q_region (C := InSt w g who (cameTo a r) (.slice qa ql qc) sd) (by kernel_rfl) (by kernel_rfl) hC1.drew ?_
  repeat (first
    | (refine q_skip (by rfl) ?_; simp only [Act.put, List.setIfInBounds_toArray, List.set_cons_zero, List.set_cons_succ])
    | (refine q_run_ex (by rfl) ?_
       apply Exists.intro
       refine ⟨fun w0 hC => ?_, ?_⟩
       · obtain ⟨c0, c1, c2, c3, c4, c5, c6, c7, c8⟩ := hC.1.blk.tnums; obtain ⟨d0, d1, d2⟩ := hC.1.blk.tcall a.n.height r hh hr; rw [show ((cameTo a r).n.heard a.n.height).is r = a.n.sheet.is r from rfl] at d0; simp only [cameTo] at c0 c1 c2 c3 c4 c5 c6; clear hC; go_simp; rfl
       simp only [Act.put, List.setIfInBounds_toArray, List.set_cons_zero, List.set_cons_succ])
    | (refine q_call_ex (by rfl) ?_
       apply Exists.intro
       apply Exists.intro
       apply Exists.intro
       refine ⟨fun w0 hC => ?_, fun w0 hC => ?_, ?_⟩
       · clear hC; go_simp; exact ⟨rfl, rfl⟩
       · first | exact (hlead w0).mono (fun e w' ⟨he, hw⟩ => ⟨he, hw ▸ hC⟩) | exact hsheet w0 hC
       simp only [Act.put, List.setIfInBounds_toArray, List.set_cons_zero, List.set_cons_succ]))
  refine q_nil ?_
  intro w5 hC
  go_wp2
  refine bodyPost_ret (results_none rfl _ _ _) rfl ?_
  rw [he.out]
  exact ⟨rfl, sd, hC.1, hC.2⟩
set_option maxRecDepth 100000 in
set_option maxHeartbeats 4000000 in
theorem tenter_heard {w : World} {g who : Nat} {a : At} {qa : Option Addr} {qc ql : Nat} {sd : Value} (H : St w g 92 who a (.slice qa ql qc) sd) (hh : a.n.height < 4) (r : Nat) (hr : r < 6) (_hlen : a.words.length < 100000) (hl : lead a.n.height r = who) (hi : a.n.sheet.is r = true) :
    Calls Tryz.prog 54 #[.pointer (some ⟨g, 0, none⟩), .int .i64 (r : Int)] w fun e w' => e = .returned (.tuple #[]) ∧ ∃ sd', St w' g 92 who (enter who a r) (.slice qa ql qc) sd' ∧ Below g w w' := by
  obtain ⟨c0, c1, c2, c3, c4, c5, c6, c7, c8⟩ := H.blk.tnums
  have f1 := H.blk.free 1
  have f2 := H.blk.free 2
  have H1 := (H.put (j := 1) (v := .int .i64 (r : Int)) { a.n with round := r } (by omega) (set_round _ _) rfl).put (j := 2) (v := .int .i64 0) (cameTo a r).n (by omega) (set_step _ _) rfl
  have L1 : Below g w ((w.setCell ⟨g, 1, none⟩ (.int .i64 (r : Int))).setCell ⟨g, 2, none⟩ (.int .i64 0)) := bel_put (bel_put (Below.refl _ _) _ _) _ _
  have hri : (r : Int) < 6 := by omega
  have hhi : (a.n.height : Int) < 4 := by omega
  have hsheet : ∀ W, InSt w g who (cameTo a r) (.slice qa ql qc) sd W → Calls Tryz.prog 58 #[.pointer (some ⟨g, 0, none⟩)] W fun e w' => e = .returned (.pointer (some ⟨g, 13 + a.n.height * 66, none⟩)) ∧ InSt w g who (cameTo a r) (.slice qa ql qc) sd w' := fun W hC => (tsheet_any hC.1.blk hh).mono (fun e w' ⟨he, hb⟩ => ⟨he, hC.keep hb⟩)
  have hlead : ∀ W, Calls Tryz.prog 75 #[.int .i64 (a.n.height : Int), .int .i64 (r : Int)] W fun e w' => e = .returned (.int .i64 (who : Int)) ∧ w' = W := fun W => by rw [← hl]; exact leader_any _ _ W
  have he : Hid (enter who a r = cameTo a r) := enter_stays (Or.inr hi)
  clear hl
  go_enter Tryz.func54, Tryz.ntmps54
  go_wp2_with fail
  clear c0 c1 c2 c3 c4 c5 c6 c7 c8 f1 f2
  generalize (w.setCell ⟨g, 1, none⟩ (.int .i64 (r : Int))).setCell ⟨g, 2, none⟩ (.int .i64 0) = W1 at H1 L1 ⊢
  have hC1 : InSt w g who (cameTo a r) (.slice qa ql qc) sd W1 := ⟨H1, L1⟩
  clear H1 L1
  refine q_region (C := InSt w g who (cameTo a r) (.slice qa ql qc) sd) (by kernel_rfl) (by kernel_rfl) hC1.drew ?_
  repeat (first
    | (refine q_skip (by rfl) ?_; simp only [Act.put, List.setIfInBounds_toArray, List.set_cons_zero, List.set_cons_succ])
    | (refine q_run_ex (by rfl) ?_
       apply Exists.intro
       refine ⟨fun w0 hC => ?_, ?_⟩
       · obtain ⟨c0, c1, c2, c3, c4, c5, c6, c7, c8⟩ := hC.1.blk.tnums; obtain ⟨d0, d1, d2⟩ := hC.1.blk.tcall a.n.height r hh hr; rw [show ((cameTo a r).n.heard a.n.height).is r = a.n.sheet.is r from rfl] at d0; simp only [cameTo] at c0 c1 c2 c3 c4 c5 c6; clear hC; go_simp; rfl
       simp only [Act.put, List.setIfInBounds_toArray, List.set_cons_zero, List.set_cons_succ])
    | (refine q_call_ex (by rfl) ?_
       apply Exists.intro
       apply Exists.intro
       apply Exists.intro
       refine ⟨fun w0 hC => ?_, fun w0 hC => ?_, ?_⟩
       · clear hC; go_simp; exact ⟨rfl, rfl⟩
       · first | exact (hlead w0).mono (fun e w' ⟨he, hw⟩ => ⟨he, hw ▸ hC⟩) | exact hsheet w0 hC
       simp only [Act.put, List.setIfInBounds_toArray, List.set_cons_zero, List.set_cons_succ]))
  refine q_nil ?_
  intro w5 hC
  go_wp2
  refine bodyPost_ret (results_none rfl _ _ _) rfl ?_
  rw [he.out]
  exact ⟨rfl, sd, hC.1, hC.2⟩
set_option maxRecDepth 100000 in
set_option maxHeartbeats 4000000 in
theorem tenter_valid {w : World} {g who : Nat} {a : At} {qa : Option Addr} {qc ql : Nat} {sd : Value} (H : St w g 92 who a (.slice qa ql qc) sd) (hh : a.n.height < 4) (r : Nat) (hr : r < 6) (hlen : a.words.length < 100000) (hl : lead a.n.height r = who) (hi : a.n.sheet.is r = false) (hv : 0 ≤ a.n.validIn) :
    Calls Tryz.prog 54 #[.pointer (some ⟨g, 0, none⟩), .int .i64 (r : Int)] w fun e w' => e = .returned (.tuple #[]) ∧ ∃ sd', St w' g 92 who (enter who a r) (.slice qa ql qc) sd' ∧ Below g w w' := by
  obtain ⟨c0, c1, c2, c3, c4, c5, c6, c7, c8⟩ := H.blk.tnums
  have f1 := H.blk.free 1
  have f2 := H.blk.free 2
  have H1 := (H.put (j := 1) (v := .int .i64 (r : Int)) { a.n with round := r } (by omega) (set_round _ _) rfl).put (j := 2) (v := .int .i64 0) (cameTo a r).n (by omega) (set_step _ _) rfl
  have L1 : Below g w ((w.setCell ⟨g, 1, none⟩ (.int .i64 (r : Int))).setCell ⟨g, 2, none⟩ (.int .i64 0)) := bel_put (bel_put (Below.refl _ _) _ _) _ _
  have hri : (r : Int) < 6 := by omega
  have hhi : (a.n.height : Int) < 4 := by omega
  have hsheet : ∀ W, InSt w g who (cameTo a r) (.slice qa ql qc) sd W → Calls Tryz.prog 58 #[.pointer (some ⟨g, 0, none⟩)] W fun e w' => e = .returned (.pointer (some ⟨g, 13 + a.n.height * 66, none⟩)) ∧ InSt w g who (cameTo a r) (.slice qa ql qc) sd w' := fun W hC => (tsheet_any hC.1.blk hh).mono (fun e w' ⟨he, hb⟩ => ⟨he, hC.keep hb⟩)
  have hlead : ∀ W, Calls Tryz.prog 75 #[.int .i64 (a.n.height : Int), .int .i64 (r : Int)] W fun e w' => e = .returned (.int .i64 (who : Int)) ∧ w' = W := fun W => by rw [← hl]; exact leader_any _ _ W
  have he : Hid (enter who a r = tell who (cameTo a r) 1 a.n.valid a.n.validIn) := enter_valid hh hl hi hv
  have hvb : (a.n.validIn != -1) = true := by simp; omega
  clear hl
  go_enter Tryz.func54, Tryz.ntmps54
  go_wp2_with fail
  clear c0 c1 c2 c3 c4 c5 c6 c7 c8 f1 f2
  generalize (w.setCell ⟨g, 1, none⟩ (.int .i64 (r : Int))).setCell ⟨g, 2, none⟩ (.int .i64 0) = W1 at H1 L1 ⊢
  have hC1 : InSt w g who (cameTo a r) (.slice qa ql qc) sd W1 := ⟨H1, L1⟩
  clear H1 L1
  refine q_region (C := InSt w g who (cameTo a r) (.slice qa ql qc) sd) (by kernel_rfl) (by kernel_rfl) hC1.drew ?_
  repeat (first
    | (refine q_skip (by rfl) ?_; simp only [Act.put, List.setIfInBounds_toArray, List.set_cons_zero, List.set_cons_succ])
    | (refine q_run_ex (by rfl) ?_
       apply Exists.intro
       refine ⟨fun w0 hC => ?_, ?_⟩
       · obtain ⟨c0, c1, c2, c3, c4, c5, c6, c7, c8⟩ := hC.1.blk.tnums; obtain ⟨d0, d1, d2⟩ := hC.1.blk.tcall a.n.height r hh hr; rw [show ((cameTo a r).n.heard a.n.height).is r = a.n.sheet.is r from rfl] at d0; simp only [cameTo] at c0 c1 c2 c3 c4 c5 c6; clear hC; go_simp; rfl
       simp only [Act.put, List.setIfInBounds_toArray, List.set_cons_zero, List.set_cons_succ])
    | (refine q_call_ex (by rfl) ?_
       apply Exists.intro
       apply Exists.intro
       apply Exists.intro
       refine ⟨fun w0 hC => ?_, fun w0 hC => ?_, ?_⟩
       · clear hC; go_simp; exact ⟨rfl, rfl⟩
       · first | exact (hlead w0).mono (fun e w' ⟨he, hw⟩ => ⟨he, hw ▸ hC⟩) | exact hsheet w0 hC
       simp only [Act.put, List.setIfInBounds_toArray, List.set_cons_zero, List.set_cons_succ]))
  refine q_nil ?_
  intro w5 hC
  obtain ⟨c0, c1, c2, c3, c4, c5, c6, c7, c8⟩ := hC.1.blk.tnums
  simp only [cameTo] at c5 c6
  go_wp2_with fail
  refine held_region (InSt w g who (cameTo a r) (.slice qa ql qc) sd) [11] [(0, 0), (1, 0), (2, 0), (3, 0), (4, 0), (5, 1), (6, 0), (7, 0), (8, 0), (9, 0), (10, 1), (11, 2)] (by kernel_rfl) (by kernel_rfl) (by kernel_rfl) rfl (fun _ _ d _ _ h => by cases d <;> exact h) hC.drew ?_
  clear c0 c1 c2 c3 c4 c5 c6 c7 c8
  repeat (first
    | (refine ord_run0_ex rfl (by rfl) ?_
       apply Exists.intro
       refine ⟨fun w0 => ?_, ?_⟩
       · go_simp; rfl
       simp only [Act.put, List.setIfInBounds_toArray, List.set_cons_zero, List.set_cons_succ])
    | (refine ord_run1_ex rfl (by rfl) ?_
       apply Exists.intro
       refine ⟨fun w0 hC => ?_, ?_⟩
       · obtain ⟨c0, c1, c2, c3, c4, c5, c6, c7, c8⟩ := hC.1.blk.tnums; simp only [cameTo] at c5 c6; clear hC; go_simp; rfl
       simp only [Act.put, List.setIfInBounds_toArray, List.set_cons_zero, List.set_cons_succ]))
  refine ord_call_ex rfl (by rfl) ?_
  apply Exists.intro
  apply Exists.intro
  refine ⟨?_, ?_⟩
  · go_simp; exact ⟨rfl, rfl⟩
  refine (tsay_any hC.drew.1 hh hlen 1 a.n.valid a.n.validIn).mono ?_
  rintro e w6 ⟨rfl, sd', H6, L6⟩
  refine ⟨_, rfl, fun hc => absurd hc (by decide), ?_⟩
  simp only [Act.put, List.setIfInBounds_toArray, List.set_cons_zero, List.set_cons_succ]
  show wpOrd _ _ _ _ _ [] _ _ _
  unfold wpOrd
  go_wp2
  go_end0
  rw [he.out]
  exact ⟨rfl, sd', H6, bel_seq hC.drew.2 L6⟩
set_option maxRecDepth 100000 in
set_option maxHeartbeats 4000000 in
theorem tenter_none {w : World} {g who : Nat} {a : At} {qa : Option Addr} {qc ql : Nat} {sd : Value} (H : St w g 92 who a (.slice qa ql qc) sd) (hh : a.n.height < 4) (r : Nat) (hr : r < 6) (_hlen : a.words.length < 100000) (hl : lead a.n.height r = who) (hi : a.n.sheet.is r = false) (hv : a.n.validIn = -1) (hq : a.n.queue = []) (hql : ql = 0) :
    Calls Tryz.prog 54 #[.pointer (some ⟨g, 0, none⟩), .int .i64 (r : Int)] w fun e w' => e = .returned (.tuple #[]) ∧ ∃ sd', St w' g 92 who (enter who a r) (.slice qa ql qc) sd' ∧ Below g w w' := by
  obtain ⟨c0, c1, c2, c3, c4, c5, c6, c7, c8⟩ := H.blk.tnums
  have f1 := H.blk.free 1
  have f2 := H.blk.free 2
  have H1 := (H.put (j := 1) (v := .int .i64 (r : Int)) { a.n with round := r } (by omega) (set_round _ _) rfl).put (j := 2) (v := .int .i64 0) (cameTo a r).n (by omega) (set_step _ _) rfl
  have L1 : Below g w ((w.setCell ⟨g, 1, none⟩ (.int .i64 (r : Int))).setCell ⟨g, 2, none⟩ (.int .i64 0)) := bel_put (bel_put (Below.refl _ _) _ _) _ _
  have hri : (r : Int) < 6 := by omega
  have hhi : (a.n.height : Int) < 4 := by omega
  have hsheet : ∀ W, InSt w g who (cameTo a r) (.slice qa ql qc) sd W → Calls Tryz.prog 58 #[.pointer (some ⟨g, 0, none⟩)] W fun e w' => e = .returned (.pointer (some ⟨g, 13 + a.n.height * 66, none⟩)) ∧ InSt w g who (cameTo a r) (.slice qa ql qc) sd w' := fun W hC => (tsheet_any hC.1.blk hh).mono (fun e w' ⟨he, hb⟩ => ⟨he, hC.keep hb⟩)
  have hlead : ∀ W, Calls Tryz.prog 75 #[.int .i64 (a.n.height : Int), .int .i64 (r : Int)] W fun e w' => e = .returned (.int .i64 (who : Int)) ∧ w' = W := fun W => by rw [← hl]; exact leader_any _ _ W
  have he : Hid (enter who a r = cameTo a r) := enter_none hh hl hi hv hq
  clear hl
  have hq0 : Hid (ql = 0) := hql
  clear hql
  go_enter Tryz.func54, Tryz.ntmps54
  go_wp2_with fail
  clear c0 c1 c2 c3 c4 c5 c6 c7 c8 f1 f2
  generalize (w.setCell ⟨g, 1, none⟩ (.int .i64 (r : Int))).setCell ⟨g, 2, none⟩ (.int .i64 0) = W1 at H1 L1 ⊢
  have hC1 : InSt w g who (cameTo a r) (.slice qa ql qc) sd W1 := ⟨H1, L1⟩
  clear H1 L1
  refine q_region (C := InSt w g who (cameTo a r) (.slice qa ql qc) sd) (by kernel_rfl) (by kernel_rfl) hC1.drew ?_
  repeat (first
    | (refine q_skip (by rfl) ?_; simp only [Act.put, List.setIfInBounds_toArray, List.set_cons_zero, List.set_cons_succ])
    | (refine q_run_ex (by rfl) ?_
       apply Exists.intro
       refine ⟨fun w0 hC => ?_, ?_⟩
       · obtain ⟨c0, c1, c2, c3, c4, c5, c6, c7, c8⟩ := hC.1.blk.tnums; obtain ⟨d0, d1, d2⟩ := hC.1.blk.tcall a.n.height r hh hr; rw [show ((cameTo a r).n.heard a.n.height).is r = a.n.sheet.is r from rfl] at d0; simp only [cameTo] at c0 c1 c2 c3 c4 c5 c6; clear hC; go_simp; rfl
       simp only [Act.put, List.setIfInBounds_toArray, List.set_cons_zero, List.set_cons_succ])
    | (refine q_call_ex (by rfl) ?_
       apply Exists.intro
       apply Exists.intro
       apply Exists.intro
       refine ⟨fun w0 hC => ?_, fun w0 hC => ?_, ?_⟩
       · clear hC; go_simp; exact ⟨rfl, rfl⟩
       · first | exact (hlead w0).mono (fun e w' ⟨he, hw⟩ => ⟨he, hw ▸ hC⟩) | exact hsheet w0 hC
       simp only [Act.put, List.setIfInBounds_toArray, List.set_cons_zero, List.set_cons_succ]))
  refine q_nil ?_
  intro w5 hC
  obtain ⟨c0, c1, c2, c3, c4, c5, c6, c7, c8⟩ := hC.1.blk.tnums
  simp only [cameTo] at c6
  rw [hv] at c6
  rw [hq0.out] at c7
  go_wp2
  go_end0
  rw [he.out]
  exact ⟨rfl, sd, hC.1, hC.2⟩
set_option maxRecDepth 100000 in
set_option maxHeartbeats 4000000 in
theorem tenter_first {w : World} {g who : Nat} {a : At} {qa : Option Addr} {qc ql : Nat} {sd : Value} (H : St w g 92 who a (.slice qa ql qc) sd) (hh : a.n.height < 4) (r : Nat) (hr : r < 6) (hlen : a.words.length < 100000) (hl : lead a.n.height r = who) (hi : a.n.sheet.is r = false) (hv : a.n.validIn = -1) (y : Int) (ys : List Int) (hq : a.n.queue = y :: ys) :
    Calls Tryz.prog 54 #[.pointer (some ⟨g, 0, none⟩), .int .i64 (r : Int)] w fun e w' => e = .returned (.tuple #[]) ∧ ∃ sd', St w' g 92 who (enter who a r) (.slice qa ql qc) sd' ∧ Below g w w' := by
  obtain ⟨c0, c1, c2, c3, c4, c5, c6, c7, c8⟩ := H.blk.tnums
  have f1 := H.blk.free 1
  have f2 := H.blk.free 2
  have H1 := (H.put (j := 1) (v := .int .i64 (r : Int)) { a.n with round := r } (by omega) (set_round _ _) rfl).put (j := 2) (v := .int .i64 0) (cameTo a r).n (by omega) (set_step _ _) rfl
  have L1 : Below g w ((w.setCell ⟨g, 1, none⟩ (.int .i64 (r : Int))).setCell ⟨g, 2, none⟩ (.int .i64 0)) := bel_put (bel_put (Below.refl _ _) _ _) _ _
  have hri : (r : Int) < 6 := by omega
  have hhi : (a.n.height : Int) < 4 := by omega
  have hsheet : ∀ W, InSt w g who (cameTo a r) (.slice qa ql qc) sd W → Calls Tryz.prog 58 #[.pointer (some ⟨g, 0, none⟩)] W fun e w' => e = .returned (.pointer (some ⟨g, 13 + a.n.height * 66, none⟩)) ∧ InSt w g who (cameTo a r) (.slice qa ql qc) sd w' := fun W hC => (tsheet_any hC.1.blk hh).mono (fun e w' ⟨he, hb⟩ => ⟨he, hC.keep hb⟩)
  have hlead : ∀ W, Calls Tryz.prog 75 #[.int .i64 (a.n.height : Int), .int .i64 (r : Int)] W fun e w' => e = .returned (.int .i64 (who : Int)) ∧ w' = W := fun W => by rw [← hl]; exact leader_any _ _ W
  have he : Hid (enter who a r = tell who (cameTo a r) 1 y (-1)) := enter_first hh hl hi hv y ys hq
  clear hl
  go_enter Tryz.func54, Tryz.ntmps54
  go_wp2_with fail
  clear c0 c1 c2 c3 c4 c5 c6 c7 c8 f1 f2
  generalize (w.setCell ⟨g, 1, none⟩ (.int .i64 (r : Int))).setCell ⟨g, 2, none⟩ (.int .i64 0) = W1 at H1 L1 ⊢
  have hC1 : InSt w g who (cameTo a r) (.slice qa ql qc) sd W1 := ⟨H1, L1⟩
  clear H1 L1
  refine q_region (C := InSt w g who (cameTo a r) (.slice qa ql qc) sd) (by kernel_rfl) (by kernel_rfl) hC1.drew ?_
  repeat (first
    | (refine q_skip (by rfl) ?_; simp only [Act.put, List.setIfInBounds_toArray, List.set_cons_zero, List.set_cons_succ])
    | (refine q_run_ex (by rfl) ?_
       apply Exists.intro
       refine ⟨fun w0 hC => ?_, ?_⟩
       · obtain ⟨c0, c1, c2, c3, c4, c5, c6, c7, c8⟩ := hC.1.blk.tnums; obtain ⟨d0, d1, d2⟩ := hC.1.blk.tcall a.n.height r hh hr; rw [show ((cameTo a r).n.heard a.n.height).is r = a.n.sheet.is r from rfl] at d0; simp only [cameTo] at c0 c1 c2 c3 c4 c5 c6; clear hC; go_simp; rfl
       simp only [Act.put, List.setIfInBounds_toArray, List.set_cons_zero, List.set_cons_succ])
    | (refine q_call_ex (by rfl) ?_
       apply Exists.intro
       apply Exists.intro
       apply Exists.intro
       refine ⟨fun w0 hC => ?_, fun w0 hC => ?_, ?_⟩
       · clear hC; go_simp; exact ⟨rfl, rfl⟩
       · first | exact (hlead w0).mono (fun e w' ⟨he, hw⟩ => ⟨he, hw ▸ hC⟩) | exact hsheet w0 hC
       simp only [Act.put, List.setIfInBounds_toArray, List.set_cons_zero, List.set_cons_succ]))
  refine q_nil ?_
  intro w5 hC
  obtain ⟨c0, c1, c2, c3, c4, c5, c6, c7, c8⟩ := hC.1.blk.tnums
  simp only [cameTo] at c6
  rw [hv] at c6
  have hown := hC.1.own
  have hqn : (cameTo a r).n.queue = y :: ys := hq
  rw [hqn] at hown
  obtain ⟨g', hqa, hql, hy⟩ : ∃ g', qa = some ⟨g', 0, none⟩ ∧ ql = ys.length + 1 ∧ w5.cell? ⟨g', 0, none⟩ = some (.int .i64 y) := by
    rcases (own_ints hown) with ⟨h0, _⟩ | ⟨ad, cap, hv1, hc⟩
    · cases h0
    · rcases hown.2 with ⟨_, h0⟩ | ⟨g', cap', cur, hv2, _⟩
      · simp at h0
      · injection hv2 with e1 e2 e3
        injection hv1 with f1 f2 f3
        refine ⟨g', e1, by rw [e2]; rfl, ?_⟩
        have := hc 0 y rfl
        rw [e1] at f1
        injection f1 with f1
        rw [← f1, Addr.add_mid] at this
        simpa using this
  subst hqa hql
  clear hown
  go_wp2_with (first | (go_at_call 76; refine (tsay_any hC.1 hh hlen 1 y (-1)).mono ?_; rintro e w6 ⟨rfl, sd', H6, L6⟩))
  go_end0
  rw [he.out]
  exact ⟨rfl, sd', H6, bel_seq hC.2 L6⟩

theorem tenter_any {w : World} {g who : Nat} {a : At} {q sd : Value} (H : St w g 92 who a q sd) (hh : a.n.height < 4) (r : Nat) (hr : r < 6) (hlen : a.words.length < 100000) (hv : a.n.validIn = -1 ∨ 0 ≤ a.n.validIn) :
    Calls Tryz.prog 54 #[.pointer (some ⟨g, 0, none⟩), .int .i64 (r : Int)] w fun e w' => e = .returned (.tuple #[]) ∧ ∃ sd', St w' g 92 who (enter who a r) q sd' ∧ Below g w w' := by
  obtain ⟨qa, qc, hq⟩ := own_shape H.own
  subst hq
  by_cases hl : lead a.n.height r = who
  · cases hi : a.n.sheet.is r
    · rcases hv with hv | hv
      · obtain ⟨l, hq⟩ : ∃ l, a.n.queue = l := ⟨_, rfl⟩
        match l, hq with
        | [], hq => exact tenter_none H hh r hr hlen hl hi hv hq (by rw [hq]; rfl)
        | y :: ys, hq => exact tenter_first H hh r hr hlen hl hi hv y ys hq
      · exact tenter_valid H hh r hr hlen hl hi hv
    · exact tenter_heard H hh r hr hlen hl hi
  · exact tenter_other H hh r hr hlen hl
end Go.Proofs.YtmmgaonlmpajbacGreat
namespace Go.Proofs.YtmmgaonlmpajbacGreat
open Go.RowKit

theorem far_rev : (List.range 6).reverse = [5, 4, 3, 2, 1, 0] := rfl
theorem far_some {S : Sh} {round k : Nat} (h1 : round < k) (h2 : k < 6) (h3 : 1 < heardN S k) (h4 : ∀ r : Nat, k < r → r < 6 → ¬ (1 < heardN S r)) : farRound S round = some k := by
  unfold farRound
  rw [far_rev]
  have hk : k = 1 ∨ k = 2 ∨ k = 3 ∨ k = 4 ∨ k = 5 := by omega
  rcases hk with rfl | rfl | rfl | rfl | rfl
  · have a2 := h4 2 (by omega) (by omega); have a3 := h4 3 (by omega) (by omega); have a4 := h4 4 (by omega) (by omega); have a5 := h4 5 (by omega) (by omega)
    simp only [List.find?_cons, decide_eq_false a2, decide_eq_false a3, decide_eq_false a4, decide_eq_false a5, decide_eq_true h3, decide_eq_true h1, Bool.and_false, Bool.and_true]
  · have a3 := h4 3 (by omega) (by omega); have a4 := h4 4 (by omega) (by omega); have a5 := h4 5 (by omega) (by omega)
    simp only [List.find?_cons, decide_eq_false a3, decide_eq_false a4, decide_eq_false a5, decide_eq_true h3, decide_eq_true h1, Bool.and_false, Bool.and_true]
  · have a4 := h4 4 (by omega) (by omega); have a5 := h4 5 (by omega) (by omega)
    simp only [List.find?_cons, decide_eq_false a4, decide_eq_false a5, decide_eq_true h3, decide_eq_true h1, Bool.and_false, Bool.and_true]
  · have a5 := h4 5 (by omega) (by omega)
    simp only [List.find?_cons, decide_eq_false a5, decide_eq_true h3, decide_eq_true h1, Bool.and_false, Bool.and_true]
  · simp only [List.find?_cons, decide_eq_true h3, decide_eq_true h1, Bool.and_true]
theorem far_none {S : Sh} {round : Nat} (h4 : ∀ r : Nat, round < r → r < 6 → ¬ (1 < heardN S r)) : farRound S round = none := by
  unfold farRound
  rw [List.find?_eq_none]
  intro r hr
  have : r < 6 := by simpa using hr
  simp only [Bool.and_eq_true, decide_eq_true_eq, not_and]
  exact fun h => h4 r h this

set_option maxRecDepth 100000 in
set_option maxHeartbeats 4000000 in
theorem tcatch_any {w : World} {g who : Nat} {a : At} {q sd : Value} (H : St w g 92 who a q sd) (hh : a.n.height < 4) (hround : a.n.round < 6) (hlen : a.words.length < 100000) (hv : a.n.validIn = -1 ∨ 0 ≤ a.n.validIn) :
    Calls Tryz.prog 64 #[.pointer (some ⟨g, 0, none⟩)] w fun e w' =>
      (farRound a.n.sheet a.n.round = none ∧ e = .returned (.bool false) ∧ InSt w g who a q sd w') ∨ (∃ r, farRound a.n.sheet a.n.round = some r ∧ e = .returned (.bool true) ∧ ∃ sd', InSt w g who (enter who a r) q sd' w') := by
  have hi := infoS (a.n.heard a.n.height)
  have hhi : (a.n.height : Int) < 4 := by omega
  go_enter Tryz.func64, Tryz.ntmps64
  go_wp2
  go_loopw [3] (fun i W => ∃ k : Nat, k ≤ 5 ∧ i = .int .i64 (k : Int) ∧ (∀ r : Nat, k < r → r < 6 → heardN (a.n.heard a.n.height) r ≤ 1) ∧ InSt w g who a q sd W) (fun i _ => (intOf i).toNat)
  case atStart => exact ⟨5, by omega, rfl, fun r h1 h2 => by omega, H, Below.refl _ _⟩
  case round =>
    rename_i W
    obtain ⟨k, hk, rfl, hno, hC⟩ := hrel
    have hN : Hid (∀ r : Nat, k < r → r < 6 → heardN (a.n.heard a.n.height) r ≤ 1) := hno
    clear hno
    obtain ⟨c0, c1, c2, c3, c4, c5, c6, c7, c8⟩ := hC.1.blk.tnums
    by_cases hlt : a.n.round < k
    · have hlti : (a.n.round : Int) < (k : Int) := by omega
      go_wp2_with (first
        | (go_at_call 58; refine (tsheet_any hC.1.blk hh).mono ?_; rintro e w1 ⟨rfl, hb1⟩; have hC1 := hC.keep hb1; have hr := heard_range hC1.1.blk (a.n.heard a.n.height) (fun j hj => tcells_heard _ _ _ a.n.height j hh hj))
        | (refine wpList_load_part (by rfl) 46 _ rfl g (13 + a.n.height * 66) rfl (a.n.heard a.n.height).cells _ hr Tryz.underlying46 rfl hi ?_)
        | (go_at_call 85; refine (heard_any (a.n.heard a.n.height) (k : Int) _).mono ?_; rintro e w2 ⟨rfl, hb2⟩; have hC2 := hC1.keep hb2)
        | (go_at_call 54; refine (tenter_any hC2.1 hh k (by omega) hlen hv).mono ?_; rintro e w3 ⟨rfl, sd', H3, L3⟩))
      · go_ret
        have h2 : 1 < heardN (a.n.heard a.n.height) (k : Int) := by omega
        exact Or.inr ⟨k, far_some (S := a.n.heard a.n.height) hlt (by omega) h2 (fun r h3 h4 => by have := hN.out r h3 h4; omega), rfl, sd', H3, bel_seq hC2.2 L3⟩
      · refine ⟨⟨k - 1, by omega, congrArg (Value.int .i64) (by omega), fun r h1 h2 => ?_, hC2⟩, by simp [intOf]; omega⟩
        by_cases hrk : r = k
        · subst hrk; omega
        · exact hN.out r (by omega) h2
    · have hlti : ¬ (a.n.round : Int) < (k : Int) := by omega
      go_wp2
      go_ret
      exact Or.inl ⟨far_none (S := a.n.heard a.n.height) (fun r h1 h2 => by have := hN.out r (by omega) h2; omega), rfl, hC⟩
end Go.Proofs.YtmmgaonlmpajbacGreat
