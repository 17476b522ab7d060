/-
  A block of cells, read and written whole or cell by cell. No program is named here but for its namespace.
-/
import Derived.Test.YtcdagfiinneabaaLead
import Derived.Deep.MidRow
namespace Go.Proofs.Ytcdagfiinneabaa
open Go.RowKit

/-- Block g holds the cells C, of type t; none is frozen. -/
def Blk (W : World) (g : Nat) (C : Array Value) (t : TypeId) : Prop := W.heap[g]? = some (.cells C t)

theorem Blk.lt {W : World} {g : Nat} {C : Array Value} {t : TypeId} (h : Blk W g C t) : g < W.heap.size := by
  by_cases hlt : g < W.heap.size
  · exact hlt
  · unfold Blk at h; rw [Array.getElem?_eq_none (by omega)] at h; cases h
theorem Blk.cell {W : World} {g : Nat} {C : Array Value} {t : TypeId} (h : Blk W g C t) (j : Nat) : W.cell? ⟨g, j, none⟩ = C[j]? := cell_of_row W g j C t (0, 0) h
theorem Blk.free {W : World} {g : Nat} {C : Array Value} {t : TypeId} (h : Blk W g C t) (j : Nat) : W.frozen? ⟨g, j, none⟩ = false := frozen_of_row W g j C t h
theorem Blk.new (w : World) (C : Array Value) (t : TypeId) : Blk (w.alloc (.cells C t)) w.heap.size C t := heap_alloc_new w _
theorem Blk.new1 (w : World) (o : Obj) (C : Array Value) (t : TypeId) : Blk ((w.alloc o).alloc (.cells C t)) (w.heap.size + 1) C t := by
  have := Blk.new (w.alloc o) C t; rwa [World.size_alloc] at this
theorem Blk.new2 (w : World) (o o' : Obj) (C : Array Value) (t : TypeId) : Blk (((w.alloc o).alloc o').alloc (.cells C t)) (w.heap.size + 1 + 1) C t := by
  have := Blk.new ((w.alloc o).alloc o') C t; rwa [World.size_alloc, World.size_alloc] at this
theorem Blk.alloc {W : World} {g : Nat} {C : Array Value} {t : TypeId} (h : Blk W g C t) (o : Obj) : Blk (W.alloc o) g C t := by
  unfold Blk; rw [Below.heap_alloc W o g h.lt]; exact h
theorem Blk.below {W W' : World} {g : Nat} {C : Array Value} {t : TypeId} (h : Blk W g C t) (hb : Below W.heap.size W W') : Blk W' g C t := by
  unfold Blk; rw [hb.block g h.lt]; exact h
theorem Blk.drew {W : World} {g : Nat} {C : Array Value} {t : TypeId} (h : Blk W g C t) : Blk W.drew g C t := h
theorem Blk.drewN {W : World} {g : Nat} {C : Array Value} {t : TypeId} (h : Blk W g C t) (n : Nat) : Blk (W.drewN n) g C t := h
theorem below_drewN' {B : Nat} {a W : World} (h : Below B a W) (n : Nat) : Below B a (W.drewN n) := ⟨h.os, h.tape, h.output, h.size, h.block⟩
theorem Blk.there {W : World} {g : Nat} {C : Array Value} {t : TypeId} (h : Blk W g C t) : W.there g 0 C.size := fun j hj =>
  ⟨by rw [Nat.zero_add, h.cell j, Array.getElem?_eq_getElem hj]; rfl, by rw [Nat.zero_add]; exact h.free j⟩
theorem Blk.range {W : World} {g : Nat} {C : Array Value} {t : TypeId} (h : Blk W g C t) : W.rangeAt g 0 C.toList := fun j v hv => by
  rw [Nat.zero_add, h.cell j]; simpa using hv
theorem Blk.setCell {W : World} {g : Nat} {C : Array Value} {t : TypeId} (h : Blk W g C t) (j : Nat) (v : Value) : Blk (W.setCell ⟨g, j, none⟩ v) g (C.setIfInBounds j v) t := by
  unfold Blk; rw [heap_setCell_same W g j C t v h]
theorem Blk.setCell_other {W : World} {g : Nat} {C : Array Value} {t : TypeId} (h : Blk W g C t) (a : Addr) (v : Value) (ha : g ≠ a.block) : Blk (W.setCell a v) g C t := by
  unfold Blk; rw [heap_setCell_other W a g v ha]; exact h

theorem Blk.setCells_gen {g : Nat} {t : TypeId} : ∀ (vs : List Value) (o : Nat) (W : World) (A B : List Value), Blk W g (A ++ B).toArray t → A.length = o → B.length = vs.length →
    Blk (W.setCells g o vs) g (A ++ vs).toArray t
  | [], o, W, A, B, h, _, hB => by
    have : B = [] := List.eq_nil_of_length_eq_zero hB
    subst this
    exact h
  | v :: vs, o, W, A, B, h, hA, hB => by
    match B, hB with
    | b :: B, hB =>
      have h1 := h.setCell o v
      have e : ((A ++ b :: B).toArray.setIfInBounds o v) = ((A ++ [v]) ++ B).toArray := by
        subst hA
        simp
      rw [e] at h1
      have := Blk.setCells_gen vs (o + 1) (W.setCell ⟨g, o, none⟩ v) (A ++ [v]) B h1 (by simp [hA]) (by simpa using hB)
      simpa [World.setCells] using this

theorem Blk.setAll {W : World} {g : Nat} {C : Array Value} {t : TypeId} (h : Blk W g C t) (D : Array Value) (hs : C.size = D.size) : Blk (W.setCells g 0 D.toList) g D t := by
  have := Blk.setCells_gen (g := g) (t := t) D.toList 0 W [] C.toList (by simpa using h) rfl (by simpa using hs)
  simpa using this

theorem Below.setCells' {B : Nat} {a : World} {g : Nat} (hg : B ≤ g) : ∀ (vs : List Value) (o : Nat) (W : World), Below B a W → Below B a (W.setCells g o vs)
  | [], _, _, h => h
  | v :: vs, o, W, h => Below.setCells' hg vs (o + 1) (W.setCell ⟨g, o, none⟩ v) (h.setCell hg v)

theorem Blk.setCells_other {g g' : Nat} {C : Array Value} {t : TypeId} (hne : g ≠ g') : ∀ (vs : List Value) (o : Nat) (W : World), Blk W g C t → Blk (W.setCells g' o vs) g C t
  | [], _, _, h => h
  | v :: vs, o, W, h => Blk.setCells_other hne vs (o + 1) (W.setCell ⟨g', o, none⟩ v) (h.setCell_other _ v hne)

theorem size_setCells (g : Nat) : ∀ (vs : List Value) (o : Nat) (W : World), (W.setCells g o vs).heap.size = W.heap.size
  | [], _, _ => rfl
  | v :: vs, o, W => by rw [World.setCells, size_setCells g vs (o + 1)]; simp

/-- What a store into block g keeps. -/
structure Kept (g : Nat) (w w' : World) : Prop where
  blk : ∀ g' C t, g' ≠ g → Blk w g' C t → Blk w' g' C t
  bel : ∀ B a, B ≤ g → Below B a w → Below B a w'
  size : w'.heap.size = w.heap.size

theorem kept_setCells (g : Nat) (vs : List Value) (o : Nat) (W : World) : Kept g W (W.setCells g o vs) :=
  ⟨fun _ _ _ hne h => Blk.setCells_other hne vs o W h, fun _ _ hg h => Below.setCells' hg vs o W h, size_setCells g vs o W⟩
theorem kept_setCell (g j : Nat) (v : Value) (W : World) : Kept g W (W.setCell ⟨g, j, none⟩ v) :=
  ⟨fun _ _ _ hne h => h.setCell_other _ v hne, fun _ _ hg h => h.setCell hg v, by simp⟩

section
variable {P : Program}
/-- A whole block is stored over: the world behind is a letter. -/
theorem wpList_store_blk {ops : Array Oper} {rest : List Oper} {op : Oper} {a : Act} {w : World} {Q : Exit → Act → World → Prop} (hgd : op.guard = none) (ty : TypeId) (x y : Operand) (ho : op.op = .store ty x y)
    (g : Nat) (C D : Array Value) (t : TypeId) (hx : a.eval x = .pointer (some ⟨g, 0, none⟩)) (hy : a.eval y = .agg D) (hB : Blk w g C t) (hs : C.size = D.size) (hi : (P.info? ty).map (·.size) = some D.size) (h1 : D.all (·.oneCell') = true)
    (h : ∀ w', Blk w' g D t → Kept g w w' → wpList P ops Q rest (a.put op.dst undef) w') : wpList P ops Q (op :: rest) a w :=
  wpList_store_mid hgd ty x y ho g 0 D hx hy (hs ▸ hB.there) hi h1 (h _ (hB.setAll D hs) (kept_setCells g _ 0 w))
/-- A whole block is loaded. -/
theorem wpList_load_blk {ops : Array Oper} {rest : List Oper} {op : Oper} {a : Act} {w : World} {Q : Exit → Act → World → Prop} (hgd : op.guard = none) (ty : TypeId) (x : Operand) (ho : op.op = .load ty x)
    (g : Nat) (hx : a.eval x = .pointer (some ⟨g, 0, none⟩)) (t : TypeId) (C : Array Value) (d : TypeDesc) (hB : Blk w g C t)
    (hu : P.underlying ty = some d) (hd : (match d with | .struct _ | .array _ _ => true | _ => false) = true) (hi : (P.info? ty).map (·.size) = some C.size)
    (h : wpList P ops Q rest (a.put op.dst (.agg C)) w) : wpList P ops Q (op :: rest) a w :=
  wpList_load_row hgd ty x ho g hx t C (0, 0) d hB hu hd hi h
end
end Go.Proofs.Ytcdagfiinneabaa
