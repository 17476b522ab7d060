/-
  A node's cells: seven numbers, six marks, four sheets, four numbers, a list.
  What the document's own answer says: IsNode.
  What the document's own answer says: HearSheet.
  A sheet is equal to itself.
  What == says of two sheets, of two calls.
  What the document's own answer says: SameNode of nodes that are alike.
  What the document's own answer says: CopyNode.
  A node that came in by value, as plain numbers and a slice of numbers.
-/
import Derived.Test.YtmmgaonlmpajbacGreatBase
import Derived.ChangeKeysEq
import Derived.Deep.DeepCutAuto
import Derived.BigFrame
import Derived.Deep.RegionHeld
import Derived.Deep.QuietTactic
import Derived.BigQuiet
import Derived.Deep.DeepMust
import Derived.Laws.AppendOwn
import Derived.Laws.OwnMore
import Derived.ChangeSlices
namespace Go.Proofs.YtmmgaonlmpajbacGreat
open Go.RowKit

/-- A node as it lies: its numbers, and its queue's slice. -/
structure NI where
  height : Int
  round : Int
  step : Int
  bound : Int
  boundIn : Int
  valid : Int
  validIn : Int
  seen : Nat → Bool
  heard : Nat → Sh
  settled : Nat → Int
  q : Value

def NI.num (n : NI) : Nat → Int
  | 0 => n.height
  | 1 => n.round
  | 2 => n.step
  | 3 => n.bound
  | 4 => n.boundIn
  | 5 => n.valid
  | _ => n.validIn

/-- The cell at place j. -/
def ncellAt (n : NI) (j : Nat) : Value :=
  if j < 7 then .int .i64 (n.num j)
  else if j < 13 then .bool (n.seen (j - 7))
  else if j < 277 then cellAt (n.heard ((j - 13) / 66)) ((j - 13) % 66)
  else if j < 281 then .int .i64 (n.settled (j - 277))
  else n.q

def NI.cells (n : NI) : Array Value := ((List.range 282).map (ncellAt n)).toArray
theorem ncells_size (n : NI) : n.cells.size = 282 := by simp [NI.cells]
theorem ncells_at (n : NI) (j : Nat) (hj : j < 282) : n.cells[j]? = some (ncellAt n j) := by simp [NI.cells, hj]

theorem ncells_num (n : NI) (j : Nat) (hj : j < 7) : n.cells[j]? = some (.int .i64 (n.num j)) := by
  rw [ncells_at n j (by omega)]; unfold ncellAt; rw [if_pos hj]
theorem ncells_seen (n : NI) (r : Nat) (hr : r < 6) : n.cells[7 + r]? = some (.bool (n.seen r)) := by
  rw [ncells_at n _ (by omega)]; unfold ncellAt; rw [if_neg (by omega), if_pos (by omega), show 7 + r - 7 = r by omega]
theorem ncells_heard (n : NI) (h j : Nat) (hh : h < 4) (hj : j < 66) : n.cells[13 + h * 66 + j]? = some (cellAt (n.heard h) j) := by
  rw [ncells_at n _ (by omega)]; unfold ncellAt
  rw [if_neg (by omega), if_neg (by omega), if_pos (by omega), show (13 + h * 66 + j - 13) / 66 = h by omega, show (13 + h * 66 + j - 13) % 66 = j by omega]
theorem ncells_settled (n : NI) (h : Nat) (hh : h < 4) : n.cells[277 + h]? = some (.int .i64 (n.settled h)) := by
  rw [ncells_at n _ (by omega)]; unfold ncellAt
  rw [if_neg (by omega), if_neg (by omega), if_neg (by omega), if_pos (by omega), show 277 + h - 277 = h by omega]
theorem ncells_q (n : NI) : n.cells[281]? = some n.q := by
  rw [ncells_at n _ (by omega)]; rfl

/-- A whole sheet in the middle of a node. -/
theorem heard_range {W : World} {g o : Nat} {C : Array Value} {t : TypeId} (B : Blk W g C t) (S : Sh) (h : ∀ j, j < 66 → C[o + j]? = some (cellAt S j)) : W.rangeAt g o S.cells.toList := by
  intro j u hu
  have hj : j < 66 := by
    by_cases hlt : j < 66
    · exact hlt
    · rw [List.getElem?_eq_none (by rw [Array.length_toList, cells_size]; omega)] at hu; cases hu
  rw [B.cell, h j hj]
  rw [Array.getElem?_toList, cells_at S j hj] at hu
  exact hu

theorem cell_on {W W' : World} {a : Addr} {v : Value} (h : W.cell? a = some v) (hb : Below W.heap.size W W') : W'.cell? a = some v := by
  rw [hb.cell (p := a) (World.block_lt_of_cell? W _ h)]; exact h

/-- A slice of numbers: its value, and where they lie. -/
def Ints (W : World) (q : Value) (l : List Int) : Prop :=
  (l = [] ∧ ∃ cap, q = .slice none 0 cap) ∨ ∃ (a : Addr) (cap : Nat), q = .slice (some a) l.length cap ∧ ∀ i v, l[i]? = some v → W.cell? (a.add i) = some (.int .i64 v)

theorem Ints.len {W : World} {q : Value} {l : List Int} (h : Ints W q l) : ∃ a cap, q = .slice a l.length cap := by
  rcases h with ⟨rfl, cap, rfl⟩ | ⟨a, cap, rfl, _⟩
  · exact ⟨none, cap, rfl⟩
  · exact ⟨_, cap, rfl⟩
theorem Ints.keep {W W' : World} {q : Value} {l : List Int} (h : Ints W q l) (hb : Below W.heap.size W W') : Ints W' q l := by
  rcases h with ⟨rfl, cap, rfl⟩ | ⟨a, cap, rfl, hc⟩
  · exact Or.inl ⟨rfl, cap, rfl⟩
  · exact Or.inr ⟨a, cap, rfl, fun i v hv => cell_on (hc i v hv) hb⟩
theorem Ints.lies {W : World} {q : Value} {l : List Int} (h : Ints W q l) {k : Nat} (hk : k < l.length) : ∃ (a : Addr) (cap : Nat), q = .slice (some a) l.length cap ∧ W.cell? (a.add k) = some (.int .i64 (l.getD k 0)) := by
  rcases h with ⟨rfl, _⟩ | ⟨a, cap, rfl, hc⟩
  · simp at hk
  · refine ⟨a, cap, rfl, hc k _ ?_⟩
    rw [List.getD_eq_getElem?_getD, List.getElem?_eq_getElem hk]; rfl

/-! ### P3.1 -/
def okPair (v i round : Int) : Bool := (v == 0 && i == -1) || (win v 1 9 && win i 0 round)
def okSettled (n : NI) (h : Nat) : Bool := if (h : Int) < n.height then win (n.settled h) 1 9 else n.settled h == 0
def okHeights (n : NI) : Nat → Bool
  | 0 => true
  | k + 1 => okHeights n k && goodS (n.heard k) && okSettled n k
def okQueue (l : List Int) : Nat → Bool
  | 0 => true
  | k + 1 => okQueue l k && win (l.getD k 0) 1 9
def okHead (n : NI) (l : List Int) : Bool := win n.height 0 4 && win n.round 0 5 && win n.step 0 2 && decide ((l.length : Int) < 7)
/-- Is it a node? -/
def goodN (n : NI) (l : List Int) : Bool := okHead n l && okPair n.bound n.boundIn n.round && okPair n.valid n.validIn n.round && okHeights n 4 && okQueue l l.length
end Go.Proofs.YtmmgaonlmpajbacGreat
namespace Go.Proofs.YtmmgaonlmpajbacGreat
open Go.RowKit

/-- A part of a block is loaded where a guard wants it. -/
theorem wpList_load_part {P : Program} {ops : Array Oper} {rest : List Oper} {op : Oper} {a : Act} {w : World} {Q : Exit → Act → World → Prop} (hw : Region.wanted op (yielded ops a.tmps) = true) (ty : TypeId) (x : Operand) (ho : op.op = .load ty x)
    (g o : Nat) (hx : a.eval x = .pointer (some ⟨g, o, none⟩)) (D : Array Value) (d : TypeDesc) (hB : w.rangeAt g o D.toList)
    (hu : P.underlying ty = some d) (hd : d.isRow = true) (hi : (P.info? ty).map (·.size) = some D.size)
    (h : wpList P ops Q rest (a.put op.dst (.agg D)) w) : wpList P ops Q (op :: rest) a w :=
  BigFrame.wpList_want hw fun _ hK => wp_load_mid ty x ho g o hx D.toList d hB hu hd (by simpa using hi) (hK _ _ (by simpa using h))

theorem info_is {t : TypeId} {n : Nat} (h : (Tryz.prog.info? t).map (·.size) = some n) : ∃ i, Tryz.prog.info? t = some i ∧ i.size = n := by
  cases hq : Tryz.prog.info? t with
  | none => simp [hq] at h
  | some i => exact ⟨i, rfl, by simpa [hq] using h⟩

theorem eq_pair (d : Nat) (a b a' b' : Int) (W : World) :
    Sem.run Tryz.prog (Op.equalIn (d + 2) 121 (.agg #[.int .i64 a, .int .i64 b]) (.agg #[.int .i64 a', .int .i64 b'])) W = .ok (a == a' && b == b') W := by
  obtain ⟨i, hi, _⟩ := info_is (t := 3) (n := 1) (by kernel_rfl)
  rw [run_equalIn_array W (d + 1) _ _ Tryz.underlying121 hi]
  have h3 : Tryz.prog.cellsOf 3 = 1 := by kernel_rfl
  by_cases h0 : a = a'
  · by_cases h1 : b = b'
    · simp [Op.eqItems, List.range, List.range.loop, go_sem, Tryz.underlying3, h3, h0, h1]
    · simp [Op.eqItems, List.range, List.range.loop, go_sem, Tryz.underlying3, h3, h0, h1]
  · simp [Op.eqItems, List.range, List.range.loop, go_sem, Tryz.underlying3, h3, h0]

theorem info30 (S : Sh) : (Tryz.prog.info? 46).map (·.size) = some S.cells.size := by rw [cells_size]; kernel_rfl

def okPairs (n : NI) (l : List Int) : Nat → Bool
  | 0 => okHead n l
  | 1 => okHead n l && okPair n.bound n.boundIn n.round
  | _ => okHead n l && okPair n.bound n.boundIn n.round && okPair n.valid n.validIn n.round

theorem pair_eq (b : Bool) (v i round : Int) : (b && okPair v i round) = (if b then (if (v == 0 && i == -1) then true else if win v 1 9 then win i 0 round else false) else false) := by
  unfold okPair
  cases b <;> cases (v == 0 && i == -1) <;> cases win v 1 9 <;> rfl

set_option maxRecDepth 100000 in
set_option maxHeartbeats 2000000 in
theorem isNode_any (n : NI) (l : List Int) (w : World) (hq : Ints w n.q l) (hl : l.length < 4611686018427387904) :
    Calls Tryz.prog 69 #[.agg n.cells] w fun e w' => e = .returned (.bool (goodN n l)) ∧ Below w.heap.size w w' := by
  have B0 : Blk (w.alloc (.cells n.cells 50)) w.heap.size n.cells 50 := Blk.new w _ _
  have c0 : n.cells[0]? = some (.int .i64 n.height) := ncells_num n 0 (by omega)
  have c1 : n.cells[1]? = some (.int .i64 n.round) := ncells_num n 1 (by omega)
  have c2 : n.cells[2]? = some (.int .i64 n.step) := ncells_num n 2 (by omega)
  have c3 : n.cells[3]? = some (.int .i64 n.bound) := ncells_num n 3 (by omega)
  have c4 : n.cells[4]? = some (.int .i64 n.boundIn) := ncells_num n 4 (by omega)
  have c5 : n.cells[5]? = some (.int .i64 n.valid) := ncells_num n 5 (by omega)
  have c6 : n.cells[6]? = some (.int .i64 n.validIn) := ncells_num n 6 (by omega)
  obtain ⟨qa, qc, hqv⟩ := hq.len
  have c7 := ncells_q n
  rw [hqv] at c7
  go_enter Tryz.func69, Tryz.ntmps69
  go_upto_region 1 with fail
  go_cut [3] (fun s W => s = .bool (okHead n l) ∧ W = w.alloc (.cells n.cells 50))
  case first =>
    go_wp2_with (first | (go_at_call 15; refine (rwithin_any _ _ _ _).mono ?_; rintro e w' ⟨rfl, rfl⟩))
    all_goals
      go_meet
      case rel => exact ⟨congrArg Value.bool (by simp_all [okHead]), rfl⟩
  case rest =>
    obtain ⟨rfl, rfl⟩ := hcut
    have hx0 : ∀ W : World, Sem.run Tryz.prog (Instr.index 122 (.agg #[.int .i64 n.bound, .int .i64 n.boundIn, .int .i64 n.valid, .int .i64 n.validIn]) (.int .i64 0)) W = .ok (.agg #[.int .i64 n.bound, .int .i64 n.boundIn]) W := fun W => by show _ = _; kernel_rfl
    have hx1 : ∀ W : World, Sem.run Tryz.prog (Instr.index 122 (.agg #[.int .i64 n.bound, .int .i64 n.boundIn, .int .i64 n.valid, .int .i64 n.validIn]) (.int .i64 1)) W = .ok (.agg #[.int .i64 n.valid, .int .i64 n.validIn]) W := fun W => by show _ = _; kernel_rfl
    have heq : ∀ (a b : Int) (W : World), Sem.run Tryz.prog (Op.equalIn 10000 121 (.agg #[.int .i64 a, .int .i64 b]) (.agg #[.int .i64 0, .int .i64 (-1)])) W = .ok (a == 0 && b == -1) W := fun a b W => eq_pair 9998 a b 0 (-1) W
    go_wp2
    go_loopw [3, 39] (fun ok i W => ∃ k : Nat, k ≤ 2 ∧ i = .int .i64 (k : Int) ∧ ok = .bool (okPairs n l k) ∧ Blk W w.heap.size n.cells 50 ∧ Below w.heap.size w W) (fun _ i _ => 2 - (intOf i).toNat)
    case atStart => exact ⟨0, by omega, rfl, rfl, B0, by go_grown⟩
    case round =>
      clear B0
      rename_i W
      obtain ⟨k, hk, rfl, rfl, B, hB⟩ := hrel
      by_cases hlt : k < 2
      · have e1 := B.cell 1
        rw [c1] at e1
        have hz := B.lt
        have hk2 : k = 0 ∨ k = 1 := by omega
        rcases hk2 with rfl | rfl
        · have hs : Hid (okPairs n l (0 + 1) = (okPairs n l 0 && okPair n.bound n.boundIn n.round)) := rfl
          have hp : Hid _ := pair_eq (okPairs n l 0) n.bound n.boundIn n.round
          cases h0 : okPairs n l 0
          · go_wp2_with (first | (go_at_call 15; refine (rwithin_any _ _ _ _).mono ?_; rintro e w' ⟨rfl, rfl⟩))
            go_roundw
            case rel => exact ⟨0 + 1, by omega, by go_num, congrArg Value.bool (by rw [hs.out, hp.out]; simp [*]), B.below (by go_grown), bel_trans hB (by go_grown)⟩
            case measure => simp [intOf]
          · cases h1 : (n.bound == 0 && n.boundIn == -1)
            · cases h2 : win n.bound 1 9
              · go_wp2_with (first | (go_at_call 15; refine (rwithin_any _ _ _ _).mono ?_; rintro e w' ⟨rfl, rfl⟩))
                go_roundw
                case rel => exact ⟨0 + 1, by omega, by go_num, congrArg Value.bool (by rw [hs.out, hp.out]; simp [*]), B.below (by go_grown), bel_trans hB (by go_grown)⟩
                case measure => simp [intOf]
              · go_wp2_with (first | (go_at_call 15; refine (rwithin_any _ _ _ _).mono ?_; rintro e w' ⟨rfl, rfl⟩))
                go_roundw
                case rel => exact ⟨0 + 1, by omega, by go_num, congrArg Value.bool (by rw [hs.out, hp.out]; simp [*]), B.below (by go_grown), bel_trans hB (by go_grown)⟩
                case measure => simp [intOf]
            · go_wp2_with (first | (go_at_call 15; refine (rwithin_any _ _ _ _).mono ?_; rintro e w' ⟨rfl, rfl⟩))
              go_roundw
              case rel => exact ⟨0 + 1, by omega, by go_num, congrArg Value.bool (by rw [hs.out, hp.out]; simp [*]), B.below (by go_grown), bel_trans hB (by go_grown)⟩
              case measure => simp [intOf]
        · have hs : Hid (okPairs n l (1 + 1) = (okPairs n l 1 && okPair n.valid n.validIn n.round)) := rfl
          have hp : Hid _ := pair_eq (okPairs n l 1) n.valid n.validIn n.round
          cases h0 : okPairs n l 1
          · go_wp2_with (first | (go_at_call 15; refine (rwithin_any _ _ _ _).mono ?_; rintro e w' ⟨rfl, rfl⟩))
            go_roundw
            case rel => exact ⟨1 + 1, by omega, by go_num, congrArg Value.bool (by rw [hs.out, hp.out]; simp [*]), B.below (by go_grown), bel_trans hB (by go_grown)⟩
            case measure => simp [intOf]
          · cases h1 : (n.valid == 0 && n.validIn == -1)
            · cases h2 : win n.valid 1 9
              · go_wp2_with (first | (go_at_call 15; refine (rwithin_any _ _ _ _).mono ?_; rintro e w' ⟨rfl, rfl⟩))
                go_roundw
                case rel => exact ⟨1 + 1, by omega, by go_num, congrArg Value.bool (by rw [hs.out, hp.out]; simp [*]), B.below (by go_grown), bel_trans hB (by go_grown)⟩
                case measure => simp [intOf]
              · go_wp2_with (first | (go_at_call 15; refine (rwithin_any _ _ _ _).mono ?_; rintro e w' ⟨rfl, rfl⟩))
                go_roundw
                case rel => exact ⟨1 + 1, by omega, by go_num, congrArg Value.bool (by rw [hs.out, hp.out]; simp [*]), B.below (by go_grown), bel_trans hB (by go_grown)⟩
                case measure => simp [intOf]
            · go_wp2_with (first | (go_at_call 15; refine (rwithin_any _ _ _ _).mono ?_; rintro e w' ⟨rfl, rfl⟩))
              go_roundw
              case rel => exact ⟨1 + 1, by omega, by go_num, congrArg Value.bool (by rw [hs.out, hp.out]; simp [*]), B.below (by go_grown), bel_trans hB (by go_grown)⟩
              case measure => simp [intOf]
      · have hk2 : Hid (k = 2) := show k = 2 by omega
        clear hx0 hx1 heq
        go_wp2
        go_loopw [3, 61] (fun ok i W => ∃ m : Nat, m ≤ 4 ∧ i = .int .i64 (m : Int) ∧ ok = .bool (okPairs n l k && okHeights n m) ∧ Blk W w.heap.size n.cells 50 ∧ Below w.heap.size w W) (fun _ i _ => 4 - (intOf i).toNat)
        case atStart => exact ⟨0, by omega, rfl, congrArg Value.bool (by simp [okHeights]), B, hB⟩
        case round =>
          clear B hB
          obtain ⟨m, hm, rfl, rfl, B, hB⟩ := hrel
          by_cases hlt : m < 4
          · have e0 := B.cell 0
            rw [c0] at e0
            have es := B.cell (277 + m)
            rw [ncells_settled n m hlt] at es
            have hr := heard_range B (n.heard m) (fun j hj => ncells_heard n m j hlt hj)
            have hi := info30 (n.heard m)
            have hs : Hid ((okPairs n l k && okHeights n (m + 1)) = ((okPairs n l k && okHeights n m) && (goodS (n.heard m) && okSettled n m))) := by
              show (okPairs n l k && (okHeights n m && goodS (n.heard m) && okSettled n m)) = _
              simp only [Bool.and_assoc]
            cases h0 : (okPairs n l k && okHeights n m)
            · by_cases h1 : (m : Int) < n.height
              · go_wp2_with (first | (go_at_call 15; refine (rwithin_any _ _ _ _).mono ?_; rintro e w' ⟨rfl, rfl⟩))
                go_roundw
                case rel => exact ⟨m + 1, by omega, by go_num, congrArg Value.bool (by rw [hs.out]; simp [*]), B, hB⟩
                case measure => simp [intOf]; omega
              · go_wp2_with (first | (go_at_call 15; refine (rwithin_any _ _ _ _).mono ?_; rintro e w' ⟨rfl, rfl⟩))
                go_roundw
                case rel => exact ⟨m + 1, by omega, by go_num, congrArg Value.bool (by rw [hs.out]; simp [*]), B, hB⟩
                case measure => simp [intOf]; omega
            · go_wp2_with (first | (refine wpList_load_part rfl 46 _ rfl w.heap.size (13 + m * 66) rfl (n.heard m).cells _ hr Tryz.underlying46 rfl hi ?_))
              refine (isSheet_any (n.heard m) _).mono ?_
              rintro e w1 ⟨rfl, hb1⟩
              have B1 := B.below hb1
              have hB1 := bel_trans hB hb1
              clear e0 es hr hi B hB hb1
              have e0 := B1.cell 0
              rw [c0] at e0
              have es := B1.cell (277 + m)
              rw [ncells_settled n m hlt] at es
              cases h2 : goodS (n.heard m)
              · by_cases h1 : (m : Int) < n.height
                · go_wp2_with (first | (go_at_call 15; refine (rwithin_any _ _ _ _).mono ?_; rintro e w' ⟨rfl, rfl⟩))
                  go_roundw
                  case rel => exact ⟨m + 1, by omega, by go_num, congrArg Value.bool (by rw [hs.out]; simp [*]), B1, hB1⟩
                  case measure => simp [intOf]; omega
                · go_wp2_with (first | (go_at_call 15; refine (rwithin_any _ _ _ _).mono ?_; rintro e w' ⟨rfl, rfl⟩))
                  go_roundw
                  case rel => exact ⟨m + 1, by omega, by go_num, congrArg Value.bool (by rw [hs.out]; simp [*]), B1, hB1⟩
                  case measure => simp [intOf]; omega
              · by_cases h1 : (m : Int) < n.height
                · have hst : okSettled n m = win (n.settled m) 1 9 := by unfold okSettled; rw [if_pos h1]
                  go_wp2_with (first | (go_at_call 15; refine (rwithin_any _ _ _ _).mono ?_; rintro e w' ⟨rfl, rfl⟩))
                  go_roundw
                  case rel => exact ⟨m + 1, by omega, by go_num, congrArg Value.bool (by rw [hs.out]; simp [*]), B1, hB1⟩
                  case measure => simp [intOf]; omega
                · have hst : okSettled n m = (n.settled m == 0) := by unfold okSettled; rw [if_neg h1]
                  go_wp2_with (first | (go_at_call 15; refine (rwithin_any _ _ _ _).mono ?_; rintro e w' ⟨rfl, rfl⟩))
                  go_roundw
                  case rel => exact ⟨m + 1, by omega, by go_num, congrArg Value.bool (by rw [hs.out]; simp [*]), B1, hB1⟩
                  case measure => simp [intOf]; omega
          · have hm4 : Hid (m = 4) := show m = 4 by omega
            have e7 := B.cell 281
            rw [c7] at e7
            have hq' := hq.keep hB
            go_wp2
            go_loop [3, 96] (fun ok i => ∃ j : Nat, j ≤ l.length ∧ i = .int .i64 (j : Int) ∧ ok = .bool (okPairs n l k && okHeights n m && okQueue l j)) (fun _ i => l.length - (intOf i).toNat)
            case atStart => exact ⟨0, by omega, rfl, congrArg Value.bool (by simp [okQueue])⟩
            case round =>
              obtain ⟨j, hj, rfl, rfl⟩ := hrel
              by_cases hlj : j < l.length
              · obtain ⟨ad, cap, hv, hcell⟩ := hq'.lies hlj
                rw [hqv] at hv
                injection hv with hv1 hv2 hv3
                subst hv1 hv3
                have hs : Hid ((okPairs n l k && okHeights n m && okQueue l (j + 1)) = ((okPairs n l k && okHeights n m && okQueue l j) && win (l.getD j 0) 1 9)) := by
                  show (okPairs n l k && okHeights n m && (okQueue l j && win (l.getD j 0) 1 9)) = _
                  simp only [Bool.and_assoc]
                cases h0 : (okPairs n l k && okHeights n m && okQueue l j)
                · go_wp2_with (first | (go_at_call 15; refine (rwithin_any _ _ _ _).mono ?_; rintro e w' ⟨rfl, rfl⟩))
                  go_round
                  case rel => exact ⟨j + 1, by omega, by go_num, congrArg Value.bool (by rw [hs.out]; simp [*])⟩
                  case measure => simp [intOf]; omega
                · go_wp2_with (first | (go_at_call 15; refine (rwithin_any _ _ _ _).mono ?_; rintro e w' ⟨rfl, rfl⟩))
                  go_round
                  case rel => exact ⟨j + 1, by omega, by go_num, congrArg Value.bool (by rw [hs.out]; simp [*])⟩
                  case measure => simp [intOf]; omega
              · have hjl : Hid (j = l.length) := show j = l.length by omega
                go_wp2
                go_ret
                exact ⟨ret_bool (by rw [hk2.out, hm4.out, hjl.out]; rfl), hB⟩
end Go.Proofs.YtmmgaonlmpajbacGreat
namespace Go.Proofs.YtmmgaonlmpajbacGreat
open Go.RowKit

/-- The sheet of which nothing has been heard. -/
def zS : Sh := ⟨fun _ => false, fun _ => 0, fun _ => 0, fun _ _ => 0, fun _ _ => 0⟩
theorem run_zero (W : World) : Sem.run Tryz.prog (zeroValue 46) W = .ok (.agg zS.cells) W := by
  show _ = _; kernel_rfl
theorem one_cell (S : Sh) : S.cells.all (·.oneCell') = true := by
  rw [Array.all_eq_true]
  intro j hj
  have hj' : j < 66 := by simpa [cells_size] using hj
  have := cells_at S j hj'
  rw [Array.getElem?_eq_getElem hj] at this
  rw [Option.some.inj this]
  unfold cellAt
  split
  · split
    · rfl
    · split <;> rfl
  · split <;> rfl

theorem info37 (S : Sh) : (Tryz.prog.info? 46).map (·.size) = some S.cells.size := by rw [cells_size]; kernel_rfl
theorem sizes (S T : Sh) : S.cells.size = T.cells.size := by rw [cells_size, cells_size]

theorem result_sheet {fn : Func} {p : Tmp} (h : fn.results = #[.cell p 46]) (tmps : Array Value) (W : World) (g : Nat) (S : Sh) (hp : tmps.getD p undef = .pointer (some ⟨g, 0, none⟩)) (hg : Blk W g S.cells 46) :
    (results fn tmps).run Tryz.prog W = .ok (.agg S.cells) W :=
  results_cell_row h tmps W g 46 S.cells (0, 0) _ hp hg Tryz.underlying46 rfl (by rw [cells_size]; kernel_rfl)

set_option maxRecDepth 100000 in
set_option maxHeartbeats 1000000 in
theorem hearSheet_bad (S : Sh) (k f h r v x : Int) (w : World) (hg : (goodC k f h r v x != 0) = true) :
    Calls Tryz.prog 52 #[.agg S.cells, .agg #[.int .i64 k, .int .i64 f, .int .i64 h, .int .i64 r, .int .i64 v, .int .i64 x]] w fun e w' => e = .returned (.agg S.cells) ∧ Below w.heap.size w w' := by
  have hz := run_zero
  go_enter Tryz.func52, Tryz.ntmps52
  go_wp2_with fail
  refine (wordError_any _ _ _ _ _ _ _).mono ?_
  rintro e w1 ⟨rfl, hb1⟩
  have B0 : Blk w1 w.heap.size S.cells 46 := (((Blk.new w S.cells 46).alloc _).alloc _).below hb1
  have B2 : Blk w1 (w.heap.size + 1 + 1) zS.cells 46 := (show Blk _ _ _ _ from by have := Blk.new ((w.alloc (.cells S.cells 46)).alloc (.cells #[.int .i64 k, .int .i64 f, .int .i64 h, .int .i64 r, .int .i64 v, .int .i64 x] 36)) zS.cells 46; simpa using this).below hb1
  have hbb := below_past (below_past (below_past hb1))
  clear hb1
  have hi37 : (Tryz.prog.info? 46).map (·.size) = some S.cells.size := info37 S
  go_wp2_with (first | (refine wpList_load_blk rfl 46 _ rfl w.heap.size rfl 46 S.cells _ B0 Tryz.underlying46 rfl hi37 ?_) | (refine wpList_store_blk rfl 46 _ _ rfl (w.heap.size + 1 + 1) zS.cells S.cells 46 rfl rfl B2 (sizes zS S) hi37 (one_cell S) ?_; rintro w2 B3 K2))
  exact bodyPost_ret (v := .agg S.cells) (result_sheet rfl _ _ (w.heap.size + 1 + 1) S rfl B3) rfl ⟨rfl, K2.bel _ _ (by omega) hbb⟩
end Go.Proofs.YtmmgaonlmpajbacGreat
namespace Go.Proofs.YtmmgaonlmpajbacGreat
open Go.RowKit

theorem info_of {t : TypeId} {n : Nat} (h : (Tryz.prog.info? t).map (·.size) = some n) : ∃ i, Tryz.prog.info? t = some i ∧ i.size = n := by
  cases hq : Tryz.prog.info? t with
  | none => simp [hq] at h
  | some i => exact ⟨i, rfl, by simpa [hq] using h⟩

theorem eq_votes (d : Nat) (a b c e : Int) (W : World) :
    Sem.run Tryz.prog (Op.equalIn (d + 2) 43 (.agg #[.int .i64 a, .int .i64 b, .int .i64 c, .int .i64 e]) (.agg #[.int .i64 a, .int .i64 b, .int .i64 c, .int .i64 e])) W = .ok true W := by
  obtain ⟨i, hi, _⟩ := info_of (t := 3) (n := 1) (by kernel_rfl)
  rw [run_equalIn_array W (d + 1) _ _ Tryz.underlying43 hi]
  simp [Op.eqItems, List.range, List.range.loop, go_sem, Tryz.underlying3, show Tryz.prog.cellsOf 3 = 1 by kernel_rfl]

theorem eq_call (d : Nat) (p : Bool) (a b : Int) (W : World) :
    Sem.run Tryz.prog (Op.equalIn (d + 2) 41 (.agg #[.bool p, .int .i64 a, .int .i64 b]) (.agg #[.bool p, .int .i64 a, .int .i64 b])) W = .ok true W := by
  rw [run_equalIn_struct (P := Tryz.prog) W (d + 1) 41 _ _ (by kernel_rfl) (by kernel_rfl)]
  simp [Program.fieldsOf, Tryz.underlying41, Op.eqFields, go_sem, Tryz.underlying3, Tryz.underlying4]

theorem eqItems_refl (d : Nat) (e : TypeId) (c : Nat) (xs : Array Value) (W : World) : ∀ (is : List Nat), (∀ i ∈ is, ∃ a, (part e xs (i * c)).run Tryz.prog W = .ok a W ∧ (Op.equalIn d e a a).run Tryz.prog W = .ok true W) →
    (Op.eqItems d e c xs xs is).run Tryz.prog W = .ok true W
  | [], _ => by simp [Op.eqItems]
  | i :: is, h => by
    obtain ⟨a, h1, h2⟩ := h i (List.mem_cons_self ..)
    have h3 := eqItems_refl d e c xs W is (fun j hj => h j (List.mem_cons_of_mem _ hj))
    simp [Op.eqItems, Sem.run_bind, h1, h2, h3]

/-- The cells of the calls; of the wishes or the promises. -/
def callsA (S : Sh) : Array Value := #[.bool (S.is 0), .int .i64 (S.val 0), .int .i64 (S.vld 0), .bool (S.is 1), .int .i64 (S.val 1), .int .i64 (S.vld 1), .bool (S.is 2), .int .i64 (S.val 2), .int .i64 (S.vld 2), .bool (S.is 3), .int .i64 (S.val 3), .int .i64 (S.vld 3), .bool (S.is 4), .int .i64 (S.val 4), .int .i64 (S.vld 4), .bool (S.is 5), .int .i64 (S.val 5), .int .i64 (S.vld 5)]
def rowsA (V : Nat → Nat → Int) : Array Value := #[.int .i64 (V 0 0), .int .i64 (V 0 1), .int .i64 (V 0 2), .int .i64 (V 0 3), .int .i64 (V 1 0), .int .i64 (V 1 1), .int .i64 (V 1 2), .int .i64 (V 1 3), .int .i64 (V 2 0), .int .i64 (V 2 1), .int .i64 (V 2 2), .int .i64 (V 2 3), .int .i64 (V 3 0), .int .i64 (V 3 1), .int .i64 (V 3 2), .int .i64 (V 3 3), .int .i64 (V 4 0), .int .i64 (V 4 1), .int .i64 (V 4 2), .int .i64 (V 4 3), .int .i64 (V 5 0), .int .i64 (V 5 1), .int .i64 (V 5 2), .int .i64 (V 5 3)]

theorem part_calls (S : Sh) (W : World) : (part 42 S.cells 0).run Tryz.prog W = .ok (.agg (callsA S)) W := by show _ = _; kernel_rfl
theorem part_wi (S : Sh) (W : World) : (part 44 S.cells 18).run Tryz.prog W = .ok (.agg (rowsA S.wi)) W := by show _ = _; kernel_rfl
theorem part_pr (S : Sh) (W : World) : (part 44 S.cells 42).run Tryz.prog W = .ok (.agg (rowsA S.pr)) W := by show _ = _; kernel_rfl

theorem eq_calls (d : Nat) (S : Sh) (W : World) : Sem.run Tryz.prog (Op.equalIn (d + 3) 42 (.agg (callsA S)) (.agg (callsA S))) W = .ok true W := by
  obtain ⟨i, hi, _⟩ := info_of (t := 41) (n := 3) (by kernel_rfl)
  rw [run_equalIn_array W (d + 2) _ _ Tryz.underlying42 hi, show Tryz.prog.cellsOf 41 = 3 by kernel_rfl]
  refine eqItems_refl _ _ _ _ _ _ ?_
  intro j hj
  have hj' : j = 0 ∨ j = 1 ∨ j = 2 ∨ j = 3 ∨ j = 4 ∨ j = 5 := by simp at hj; omega
  rcases hj' with rfl | rfl | rfl | rfl | rfl | rfl
  · exact ⟨.agg #[.bool (S.is 0), .int .i64 (S.val 0), .int .i64 (S.vld 0)], (by show _ = _; kernel_rfl), eq_call d _ _ _ W⟩
  · exact ⟨.agg #[.bool (S.is 1), .int .i64 (S.val 1), .int .i64 (S.vld 1)], (by show _ = _; kernel_rfl), eq_call d _ _ _ W⟩
  · exact ⟨.agg #[.bool (S.is 2), .int .i64 (S.val 2), .int .i64 (S.vld 2)], (by show _ = _; kernel_rfl), eq_call d _ _ _ W⟩
  · exact ⟨.agg #[.bool (S.is 3), .int .i64 (S.val 3), .int .i64 (S.vld 3)], (by show _ = _; kernel_rfl), eq_call d _ _ _ W⟩
  · exact ⟨.agg #[.bool (S.is 4), .int .i64 (S.val 4), .int .i64 (S.vld 4)], (by show _ = _; kernel_rfl), eq_call d _ _ _ W⟩
  · exact ⟨.agg #[.bool (S.is 5), .int .i64 (S.val 5), .int .i64 (S.vld 5)], (by show _ = _; kernel_rfl), eq_call d _ _ _ W⟩

theorem eq_rows (d : Nat) (V : Nat → Nat → Int) (W : World) : Sem.run Tryz.prog (Op.equalIn (d + 3) 44 (.agg (rowsA V)) (.agg (rowsA V))) W = .ok true W := by
  obtain ⟨i, hi, _⟩ := info_of (t := 43) (n := 4) (by kernel_rfl)
  rw [run_equalIn_array W (d + 2) _ _ Tryz.underlying44 hi, show Tryz.prog.cellsOf 43 = 4 by kernel_rfl]
  refine eqItems_refl _ _ _ _ _ _ ?_
  intro j hj
  have hj' : j = 0 ∨ j = 1 ∨ j = 2 ∨ j = 3 ∨ j = 4 ∨ j = 5 := by simp at hj; omega
  rcases hj' with rfl | rfl | rfl | rfl | rfl | rfl
  · exact ⟨.agg #[.int .i64 (V 0 0), .int .i64 (V 0 1), .int .i64 (V 0 2), .int .i64 (V 0 3)], (by show _ = _; kernel_rfl), eq_votes d _ _ _ _ W⟩
  · exact ⟨.agg #[.int .i64 (V 1 0), .int .i64 (V 1 1), .int .i64 (V 1 2), .int .i64 (V 1 3)], (by show _ = _; kernel_rfl), eq_votes d _ _ _ _ W⟩
  · exact ⟨.agg #[.int .i64 (V 2 0), .int .i64 (V 2 1), .int .i64 (V 2 2), .int .i64 (V 2 3)], (by show _ = _; kernel_rfl), eq_votes d _ _ _ _ W⟩
  · exact ⟨.agg #[.int .i64 (V 3 0), .int .i64 (V 3 1), .int .i64 (V 3 2), .int .i64 (V 3 3)], (by show _ = _; kernel_rfl), eq_votes d _ _ _ _ W⟩
  · exact ⟨.agg #[.int .i64 (V 4 0), .int .i64 (V 4 1), .int .i64 (V 4 2), .int .i64 (V 4 3)], (by show _ = _; kernel_rfl), eq_votes d _ _ _ _ W⟩
  · exact ⟨.agg #[.int .i64 (V 5 0), .int .i64 (V 5 1), .int .i64 (V 5 2), .int .i64 (V 5 3)], (by show _ = _; kernel_rfl), eq_votes d _ _ _ _ W⟩

/-- Sheets that are alike are equal. -/
theorem eq_sheet (S : Sh) (W : World) : Sem.run Tryz.prog (Op.equalIn 10000 46 (.agg S.cells) (.agg S.cells)) W = .ok true W := by
  have h1 := eq_calls 9996 S W
  have h2 := eq_rows 9996 S.wi W
  have h3 := eq_rows 9996 S.pr W
  rw [run_equalIn_struct (P := Tryz.prog) W 9999 46 _ _ (by kernel_rfl) (by kernel_rfl)]
  simp [Program.fieldsOf, Tryz.underlying46, Op.eqFields, Sem.run_bind, part_calls, part_wi, part_pr, h1, h2, h3]
end Go.Proofs.YtmmgaonlmpajbacGreat
namespace Go.Proofs.YtmmgaonlmpajbacGreat
open Go.RowKit

theorem eq_votes_gen (d : Nat) (a b c e a' b' c' e' : Int) (W : World) :
    Sem.run Tryz.prog (Op.equalIn (d + 2) 43 (.agg #[.int .i64 a, .int .i64 b, .int .i64 c, .int .i64 e]) (.agg #[.int .i64 a', .int .i64 b', .int .i64 c', .int .i64 e'])) W = .ok (a == a' && (b == b' && (c == c' && e == e'))) W := by
  obtain ⟨i, hi, _⟩ := info_of (t := 3) (n := 1) (by kernel_rfl)
  rw [run_equalIn_array W (d + 1) _ _ Tryz.underlying43 hi]
  have h3 : Tryz.prog.cellsOf 3 = 1 := by kernel_rfl
  by_cases h0 : a = a'
  · by_cases h1 : b = b'
    · by_cases h2 : c = c'
      · by_cases h4 : e = e'
        · simp [Op.eqItems, List.range, List.range.loop, go_sem, Tryz.underlying3, h3, h0, h1, h2, h4]
        · simp [Op.eqItems, List.range, List.range.loop, go_sem, Tryz.underlying3, h3, h0, h1, h2, h4]
      · simp [Op.eqItems, List.range, List.range.loop, go_sem, Tryz.underlying3, h3, h0, h1, h2]
    · simp [Op.eqItems, List.range, List.range.loop, go_sem, Tryz.underlying3, h3, h0, h1]
  · simp [Op.eqItems, List.range, List.range.loop, go_sem, Tryz.underlying3, h3, h0]

theorem eq_call_gen (d : Nat) (p p' : Bool) (a b a' b' : Int) (W : World) :
    Sem.run Tryz.prog (Op.equalIn (d + 2) 41 (.agg #[.bool p, .int .i64 a, .int .i64 b]) (.agg #[.bool p', .int .i64 a', .int .i64 b'])) W = .ok (p == p' && (a == a' && b == b')) W := by
  rw [run_equalIn_struct (P := Tryz.prog) W (d + 1) 41 _ _ (by kernel_rfl) (by kernel_rfl)]
  by_cases h0 : p = p'
  · by_cases h1 : a = a'
    · by_cases h2 : b = b'
      · simp [Program.fieldsOf, Tryz.underlying41, Op.eqFields, go_sem, Tryz.underlying3, Tryz.underlying4, h0, h1, h2]
      · simp [Program.fieldsOf, Tryz.underlying41, Op.eqFields, go_sem, Tryz.underlying3, Tryz.underlying4, h0, h1, h2]
    · simp [Program.fieldsOf, Tryz.underlying41, Op.eqFields, go_sem, Tryz.underlying3, Tryz.underlying4, h0, h1]
  · simp [Program.fieldsOf, Tryz.underlying41, Op.eqFields, go_sem, Tryz.underlying3, Tryz.underlying4, h0]

theorem eqItems_gen (d : Nat) (e : TypeId) (c : Nat) (xs ys : Array Value) (f : Nat → Bool) (W : World) : ∀ (is : List Nat), (∀ i ∈ is, ∃ a b, (part e xs (i * c)).run Tryz.prog W = .ok a W ∧ (part e ys (i * c)).run Tryz.prog W = .ok b W ∧ (Op.equalIn d e a b).run Tryz.prog W = .ok (f i) W) →
    (Op.eqItems d e c xs ys is).run Tryz.prog W = .ok (is.all f) W
  | [], _ => by simp [Op.eqItems]
  | i :: is, h => by
    obtain ⟨a, b, h1, h1', h2⟩ := h i (List.mem_cons_self ..)
    have h3 := eqItems_gen d e c xs ys f W is (fun j hj => h j (List.mem_cons_of_mem _ hj))
    cases hf : f i
    · simp [Op.eqItems, Sem.run_bind, h1, h1', h2, hf]
    · simp [Op.eqItems, Sem.run_bind, h1, h1', h2, h3, hf]

def eqC (S T : Sh) : Bool := (List.range 6).all fun r => S.is r == T.is r && (S.val r == T.val r && S.vld r == T.vld r)
def eqR (V U : Nat → Nat → Int) : Bool := (List.range 6).all fun r => V r 0 == U r 0 && (V r 1 == U r 1 && (V r 2 == U r 2 && V r 3 == U r 3))
/-- Are two sheets alike? -/
def eqS (S T : Sh) : Bool := eqC S T && (eqR S.wi T.wi && eqR S.pr T.pr)

theorem eq_calls_gen (d : Nat) (S T : Sh) (W : World) : Sem.run Tryz.prog (Op.equalIn (d + 3) 42 (.agg (callsA S)) (.agg (callsA T))) W = .ok (eqC S T) W := by
  obtain ⟨i, hi, _⟩ := info_of (t := 41) (n := 3) (by kernel_rfl)
  rw [run_equalIn_array W (d + 2) _ _ Tryz.underlying42 hi, show Tryz.prog.cellsOf 41 = 3 by kernel_rfl]
  refine eqItems_gen _ _ _ _ _ _ _ _ ?_
  intro j hj
  have hj' : j = 0 ∨ j = 1 ∨ j = 2 ∨ j = 3 ∨ j = 4 ∨ j = 5 := by simp at hj; omega
  rcases hj' with rfl | rfl | rfl | rfl | rfl | rfl
  · exact ⟨.agg #[.bool (S.is 0), .int .i64 (S.val 0), .int .i64 (S.vld 0)], .agg #[.bool (T.is 0), .int .i64 (T.val 0), .int .i64 (T.vld 0)], (by show _ = _; kernel_rfl), (by show _ = _; kernel_rfl), eq_call_gen d _ _ _ _ _ _ W⟩
  · exact ⟨.agg #[.bool (S.is 1), .int .i64 (S.val 1), .int .i64 (S.vld 1)], .agg #[.bool (T.is 1), .int .i64 (T.val 1), .int .i64 (T.vld 1)], (by show _ = _; kernel_rfl), (by show _ = _; kernel_rfl), eq_call_gen d _ _ _ _ _ _ W⟩
  · exact ⟨.agg #[.bool (S.is 2), .int .i64 (S.val 2), .int .i64 (S.vld 2)], .agg #[.bool (T.is 2), .int .i64 (T.val 2), .int .i64 (T.vld 2)], (by show _ = _; kernel_rfl), (by show _ = _; kernel_rfl), eq_call_gen d _ _ _ _ _ _ W⟩
  · exact ⟨.agg #[.bool (S.is 3), .int .i64 (S.val 3), .int .i64 (S.vld 3)], .agg #[.bool (T.is 3), .int .i64 (T.val 3), .int .i64 (T.vld 3)], (by show _ = _; kernel_rfl), (by show _ = _; kernel_rfl), eq_call_gen d _ _ _ _ _ _ W⟩
  · exact ⟨.agg #[.bool (S.is 4), .int .i64 (S.val 4), .int .i64 (S.vld 4)], .agg #[.bool (T.is 4), .int .i64 (T.val 4), .int .i64 (T.vld 4)], (by show _ = _; kernel_rfl), (by show _ = _; kernel_rfl), eq_call_gen d _ _ _ _ _ _ W⟩
  · exact ⟨.agg #[.bool (S.is 5), .int .i64 (S.val 5), .int .i64 (S.vld 5)], .agg #[.bool (T.is 5), .int .i64 (T.val 5), .int .i64 (T.vld 5)], (by show _ = _; kernel_rfl), (by show _ = _; kernel_rfl), eq_call_gen d _ _ _ _ _ _ W⟩

theorem part_row (V : Nat → Nat → Int) (j : Nat) (hj : j < 6) (W : World) : (part 43 (rowsA V) (j * 4)).run Tryz.prog W = .ok (.agg #[.int .i64 (V j 0), .int .i64 (V j 1), .int .i64 (V j 2), .int .i64 (V j 3)]) W := by
  have hj' : j = 0 ∨ j = 1 ∨ j = 2 ∨ j = 3 ∨ j = 4 ∨ j = 5 := by omega
  rcases hj' with rfl | rfl | rfl | rfl | rfl | rfl
  · show _ = _; kernel_rfl
  · show _ = _; kernel_rfl
  · show _ = _; kernel_rfl
  · show _ = _; kernel_rfl
  · show _ = _; kernel_rfl
  · show _ = _; kernel_rfl

theorem eq_rows_gen (d : Nat) (V U : Nat → Nat → Int) (W : World) : Sem.run Tryz.prog (Op.equalIn (d + 3) 44 (.agg (rowsA V)) (.agg (rowsA U))) W = .ok (eqR V U) W := by
  obtain ⟨i, hi, _⟩ := info_of (t := 43) (n := 4) (by kernel_rfl)
  rw [run_equalIn_array W (d + 2) _ _ Tryz.underlying44 hi, show Tryz.prog.cellsOf 43 = 4 by kernel_rfl]
  refine eqItems_gen _ _ _ _ _ _ _ _ ?_
  intro j hj
  have hj' : j < 6 := by simpa using hj
  exact ⟨_, _, part_row V j hj' W, part_row U j hj' W, eq_votes_gen d _ _ _ _ _ _ _ _ W⟩

theorem eq_sheet_gen (S T : Sh) (W : World) : Sem.run Tryz.prog (Op.equalIn 10000 46 (.agg S.cells) (.agg T.cells)) W = .ok (eqS S T) W := by
  have h1 := eq_calls_gen 9996 S T W
  have h2 := eq_rows_gen 9996 S.wi T.wi W
  have h3 := eq_rows_gen 9996 S.pr T.pr W
  rw [run_equalIn_struct (P := Tryz.prog) W 9999 46 _ _ (by kernel_rfl) (by kernel_rfl)]
  unfold eqS
  cases e1 : eqC S T
  · simp [Program.fieldsOf, Tryz.underlying46, Op.eqFields, Sem.run_bind, part_calls, h1, e1]
  · cases e2 : eqR S.wi T.wi
    · simp [Program.fieldsOf, Tryz.underlying46, Op.eqFields, Sem.run_bind, part_calls, part_wi, h1, h2, e1, e2]
    · cases e3 : eqR S.pr T.pr
      · simp [Program.fieldsOf, Tryz.underlying46, Op.eqFields, Sem.run_bind, part_calls, part_wi, part_pr, h1, h2, h3, e1, e2, e3]
      · simp [Program.fieldsOf, Tryz.underlying46, Op.eqFields, Sem.run_bind, part_calls, part_wi, part_pr, h1, h2, h3, e1, e2, e3]

theorem eqS_zero (S : Sh) (h : eqS S zS = true) : ∀ r, r < 6 → S.is r = false ∧ S.val r = 0 ∧ S.vld r = 0 ∧ ∀ i, i < 4 → S.wi r i = 0 ∧ S.pr r i = 0 := by
  intro r hr
  unfold eqS eqC eqR at h
  simp only [Bool.and_eq_true, List.all_eq_true, List.mem_range, beq_iff_eq] at h
  obtain ⟨h1, h2, h3⟩ := h
  obtain ⟨a, b, c⟩ := h1 r hr
  obtain ⟨w0, w1, w2, w3⟩ := h2 r hr
  obtain ⟨p0, p1, p2, p3⟩ := h3 r hr
  refine ⟨a, b, c, fun i hi => ?_⟩
  have hi' : i = 0 ∨ i = 1 ∨ i = 2 ∨ i = 3 := by omega
  rcases hi' with rfl | rfl | rfl | rfl
  · exact ⟨w0, p0⟩
  · exact ⟨w1, p1⟩
  · exact ⟨w2, p2⟩
  · exact ⟨w3, p3⟩
end Go.Proofs.YtmmgaonlmpajbacGreat
namespace Go.Proofs.YtmmgaonlmpajbacGreat
open Go.RowKit

theorem below_drewN2 {B : Nat} {a W : World} (h : Below B a W) (n : Nat) : Below B a (W.drewN n) := ⟨h.os, h.tape, h.output, h.size, h.block⟩

/-- The cells of the four sheets. -/
def heardA (n : NI) : Array Value := ((List.range 264).map fun j => cellAt (n.heard (j / 66)) (j % 66)).toArray
theorem heardA_size (n : NI) : (heardA n).size = 264 := by simp [heardA]
theorem heardA_range {W : World} {g : Nat} {n : NI} {t : TypeId} (B : Blk W g n.cells t) : W.rangeAt g 13 (heardA n).toList := by
  intro j u hu
  have hj : j < 264 := by
    by_cases hlt : j < 264
    · exact hlt
    · rw [List.getElem?_eq_none (by rw [Array.length_toList, heardA_size]; omega)] at hu; cases hu
  have h1 : (heardA n)[j]? = some (cellAt (n.heard (j / 66)) (j % 66)) := by simp [heardA, hj]
  rw [Array.getElem?_toList, h1] at hu
  have := ncells_heard n (j / 66) (j % 66) (by omega) (by omega)
  rw [show 13 + j / 66 * 66 + j % 66 = 13 + j by omega] at this
  rw [B.cell, this]; exact hu

theorem eq_sheet_d (d : Nat) (S : Sh) (W : World) : Sem.run Tryz.prog (Op.equalIn (d + 4) 46 (.agg S.cells) (.agg S.cells)) W = .ok true W := by
  have h1 := eq_calls d S W
  have h2 := eq_rows d S.wi W
  have h3 := eq_rows d S.pr W
  rw [run_equalIn_struct (P := Tryz.prog) W (d + 3) 46 _ _ (by kernel_rfl) (by kernel_rfl)]
  simp [Program.fieldsOf, Tryz.underlying46, Op.eqFields, Sem.run_bind, part_calls, part_wi, part_pr, h1, h2, h3]

theorem part_heard (n : NI) (h : Nat) (hh : h < 4) (W : World) : (part 46 (heardA n) (h * 66)).run Tryz.prog W = .ok (.agg (n.heard h).cells) W := by
  have h' : h = 0 ∨ h = 1 ∨ h = 2 ∨ h = 3 := by omega
  rcases h' with rfl | rfl | rfl | rfl
  · show _ = _; kernel_rfl
  · show _ = _; kernel_rfl
  · show _ = _; kernel_rfl
  · show _ = _; kernel_rfl

theorem eq_heard (n : NI) (W : World) : Sem.run Tryz.prog (Op.equalIn 10000 47 (.agg (heardA n)) (.agg (heardA n))) W = .ok true W := by
  obtain ⟨i, hi, _⟩ := info_of (t := 46) (n := 66) (by kernel_rfl)
  rw [run_equalIn_array W 9999 _ _ Tryz.underlying47 hi, show Tryz.prog.cellsOf 46 = 66 by kernel_rfl]
  refine eqItems_refl _ _ _ _ _ _ ?_
  intro j hj
  have hj' : j < 4 := by simpa using hj
  exact ⟨_, part_heard n j hj' W, eq_sheet_d 9995 _ W⟩
def NI.setQ (n : NI) (q : Value) : NI := { n with q := q }

theorem eq_seen (b0 b1 b2 b3 b4 b5 : Bool) (W : World) : Sem.run Tryz.prog (Op.equalIn 10000 39 (.agg #[.bool b0, .bool b1, .bool b2, .bool b3, .bool b4, .bool b5]) (.agg #[.bool b0, .bool b1, .bool b2, .bool b3, .bool b4, .bool b5])) W = .ok true W := by
  obtain ⟨i, hi, _⟩ := info_of (t := 4) (n := 1) (by kernel_rfl)
  rw [run_equalIn_array W 9999 _ _ Tryz.underlying39 hi]
  simp [Op.eqItems, List.range, List.range.loop, go_sem, Tryz.underlying4, show Tryz.prog.cellsOf 4 = 1 by kernel_rfl]
theorem eq_four (a b c e : Int) (W : World) : Sem.run Tryz.prog (Op.equalIn 10000 31 (.agg #[.int .i64 a, .int .i64 b, .int .i64 c, .int .i64 e]) (.agg #[.int .i64 a, .int .i64 b, .int .i64 c, .int .i64 e])) W = .ok true W := by
  obtain ⟨i, hi, _⟩ := info_of (t := 3) (n := 1) (by kernel_rfl)
  rw [run_equalIn_array W 9999 _ _ Tryz.underlying31 hi]
  simp [Op.eqItems, List.range, List.range.loop, go_sem, Tryz.underlying3, show Tryz.prog.cellsOf 3 = 1 by kernel_rfl]

set_option maxRecDepth 100000 in
set_option maxHeartbeats 2000000 in
theorem sameNode_alike (n : NI) (q : Value) (l : List Int) (w : World) (hq : Ints w n.q l) (hq2 : Ints w q l) (hl : l.length < 4611686018427387904) :
    Calls Tryz.prog 9 #[.agg n.cells, .agg (n.setQ q).cells] w fun e w' => e = .returned (.bool true) ∧ Below w.heap.size w w' := by
  obtain ⟨qa, qc, hqv⟩ := hq.len
  obtain ⟨pa, pc, hpv⟩ := hq2.len
  have c7 := ncells_q n
  have d7 : (n.setQ q).cells[281]? = some (.slice pa l.length pc) := (ncells_q (n.setQ q)).trans (congrArg some hpv)
  rw [hqv] at c7
  have HQ : Hid (n.q = .slice qa l.length qc) := hqv
  have HP : Hid (q = .slice pa l.length pc) := hpv
  clear hqv hpv
  go_enter Tryz.func9, Tryz.ntmps9
  go_wp2
  go_loopw [16] (fun i W => ∃ j : Nat, j ≤ l.length ∧ i = .int .i64 (j : Int) ∧ Blk W w.heap.size n.cells 50 ∧ Blk W (w.heap.size + 1) (n.setQ q).cells 50 ∧ Below w.heap.size w W) (fun i _ => l.length - (intOf i).toNat)
  case atStart => exact ⟨0, by omega, rfl, (Blk.new w _ _).alloc _, Blk.new1 w _ _ _, by go_grown⟩
  case round =>
    obtain ⟨j, hj, rfl, B1, B2, hB⟩ := hrel
    by_cases hlt : j < l.length
    · have e7 := B1.cell 281
      rw [c7] at e7
      have f7 := B2.cell 281
      rw [d7] at f7
      obtain ⟨ad, cap, hv, hcell⟩ := (hq.keep hB).lies hlt
      rw [HQ.out] at hv
      injection hv with hv1 hv2 hv3
      subst hv1 hv3
      obtain ⟨ad', cap', hv', hcell'⟩ := (hq2.keep hB).lies hlt
      rw [HP.out] at hv'
      injection hv' with hv1 hv2 hv3
      subst hv1 hv3
      go_wp2
      go_quiet (fail)
      go_wp2
      go_roundw
      case rel => exact ⟨j + 1, by omega, by go_num, B1.drewN _, B2.drewN _, below_drewN2 hB _⟩
      case measure => simp [intOf]; omega
    · have hr1 := heardA_range B1
      have hr2 := heardA_range (n := n.setQ q) B2
      rw [show heardA (n.setQ q) = heardA n from rfl] at hr2
      have hi31 : (Tryz.prog.info? 47).map (·.size) = some (heardA n).size := by rw [heardA_size]; kernel_rfl
      have heq := eq_heard n
      have heq22 := eq_seen (n.seen 0) (n.seen 1) (n.seen 2) (n.seen 3) (n.seen 4) (n.seen 5)
      have heq26 := eq_four (n.settled 0) (n.settled 1) (n.settled 2) (n.settled 3)
      have c0 := B1.cell 0
      rw [show (n).cells[0]? = some (.int .i64 n.height) from ncells_num _ 0 (by omega)] at c0
      have c1 := B1.cell 1
      rw [show (n).cells[1]? = some (.int .i64 n.round) from ncells_num _ 1 (by omega)] at c1
      have c2 := B1.cell 2
      rw [show (n).cells[2]? = some (.int .i64 n.step) from ncells_num _ 2 (by omega)] at c2
      have c3 := B1.cell 3
      rw [show (n).cells[3]? = some (.int .i64 n.bound) from ncells_num _ 3 (by omega)] at c3
      have c4 := B1.cell 4
      rw [show (n).cells[4]? = some (.int .i64 n.boundIn) from ncells_num _ 4 (by omega)] at c4
      have c5 := B1.cell 5
      rw [show (n).cells[5]? = some (.int .i64 n.valid) from ncells_num _ 5 (by omega)] at c5
      have c6 := B1.cell 6
      rw [show (n).cells[6]? = some (.int .i64 n.validIn) from ncells_num _ 6 (by omega)] at c6
      have cs0 := B1.cell 7
      rw [show (n).cells[7]? = some (.bool (n.seen 0)) from ncells_seen _ 0 (by omega)] at cs0
      have cs1 := B1.cell 8
      rw [show (n).cells[8]? = some (.bool (n.seen 1)) from ncells_seen _ 1 (by omega)] at cs1
      have cs2 := B1.cell 9
      rw [show (n).cells[9]? = some (.bool (n.seen 2)) from ncells_seen _ 2 (by omega)] at cs2
      have cs3 := B1.cell 10
      rw [show (n).cells[10]? = some (.bool (n.seen 3)) from ncells_seen _ 3 (by omega)] at cs3
      have cs4 := B1.cell 11
      rw [show (n).cells[11]? = some (.bool (n.seen 4)) from ncells_seen _ 4 (by omega)] at cs4
      have cs5 := B1.cell 12
      rw [show (n).cells[12]? = some (.bool (n.seen 5)) from ncells_seen _ 5 (by omega)] at cs5
      have ct0 := B1.cell 277
      rw [show (n).cells[277]? = some (.int .i64 (n.settled 0)) from ncells_settled _ 0 (by omega)] at ct0
      have ct1 := B1.cell 278
      rw [show (n).cells[278]? = some (.int .i64 (n.settled 1)) from ncells_settled _ 1 (by omega)] at ct1
      have ct2 := B1.cell 279
      rw [show (n).cells[279]? = some (.int .i64 (n.settled 2)) from ncells_settled _ 2 (by omega)] at ct2
      have ct3 := B1.cell 280
      rw [show (n).cells[280]? = some (.int .i64 (n.settled 3)) from ncells_settled _ 3 (by omega)] at ct3
      have d0 := B2.cell 0
      rw [show (n.setQ q).cells[0]? = some (.int .i64 n.height) from ncells_num _ 0 (by omega)] at d0
      have d1 := B2.cell 1
      rw [show (n.setQ q).cells[1]? = some (.int .i64 n.round) from ncells_num _ 1 (by omega)] at d1
      have d2 := B2.cell 2
      rw [show (n.setQ q).cells[2]? = some (.int .i64 n.step) from ncells_num _ 2 (by omega)] at d2
      have d3 := B2.cell 3
      rw [show (n.setQ q).cells[3]? = some (.int .i64 n.bound) from ncells_num _ 3 (by omega)] at d3
      have d4 := B2.cell 4
      rw [show (n.setQ q).cells[4]? = some (.int .i64 n.boundIn) from ncells_num _ 4 (by omega)] at d4
      have d5 := B2.cell 5
      rw [show (n.setQ q).cells[5]? = some (.int .i64 n.valid) from ncells_num _ 5 (by omega)] at d5
      have d6 := B2.cell 6
      rw [show (n.setQ q).cells[6]? = some (.int .i64 n.validIn) from ncells_num _ 6 (by omega)] at d6
      have ds0 := B2.cell 7
      rw [show (n.setQ q).cells[7]? = some (.bool (n.seen 0)) from ncells_seen _ 0 (by omega)] at ds0
      have ds1 := B2.cell 8
      rw [show (n.setQ q).cells[8]? = some (.bool (n.seen 1)) from ncells_seen _ 1 (by omega)] at ds1
      have ds2 := B2.cell 9
      rw [show (n.setQ q).cells[9]? = some (.bool (n.seen 2)) from ncells_seen _ 2 (by omega)] at ds2
      have ds3 := B2.cell 10
      rw [show (n.setQ q).cells[10]? = some (.bool (n.seen 3)) from ncells_seen _ 3 (by omega)] at ds3
      have ds4 := B2.cell 11
      rw [show (n.setQ q).cells[11]? = some (.bool (n.seen 4)) from ncells_seen _ 4 (by omega)] at ds4
      have ds5 := B2.cell 12
      rw [show (n.setQ q).cells[12]? = some (.bool (n.seen 5)) from ncells_seen _ 5 (by omega)] at ds5
      have dt0 := B2.cell 277
      rw [show (n.setQ q).cells[277]? = some (.int .i64 (n.settled 0)) from ncells_settled _ 0 (by omega)] at dt0
      have dt1 := B2.cell 278
      rw [show (n.setQ q).cells[278]? = some (.int .i64 (n.settled 1)) from ncells_settled _ 1 (by omega)] at dt1
      have dt2 := B2.cell 279
      rw [show (n.setQ q).cells[279]? = some (.int .i64 (n.settled 2)) from ncells_settled _ 2 (by omega)] at dt2
      have dt3 := B2.cell 280
      rw [show (n.setQ q).cells[280]? = some (.int .i64 (n.settled 3)) from ncells_settled _ 3 (by omega)] at dt3
      go_wp2_with (first | (refine wpList_load_part rfl 47 _ rfl w.heap.size 13 rfl (heardA n) _ hr1 Tryz.underlying47 rfl hi31 ?_) | (refine wpList_load_part rfl 47 _ rfl (w.heap.size + 1) 13 rfl (heardA n) _ hr2 Tryz.underlying47 rfl hi31 ?_))
      go_ret
      exact ⟨rfl, hB⟩
end Go.Proofs.YtmmgaonlmpajbacGreat
namespace Go.Proofs.YtmmgaonlmpajbacGreat
open Go.RowKit

/-- The node of which nothing is known: all is zero. -/
def zN : NI := ⟨0, 0, 0, 0, 0, 0, 0, fun _ => false, fun _ => ⟨fun _ => false, fun _ => 0, fun _ => 0, fun _ _ => 0, fun _ _ => 0⟩, fun _ => 0, .slice none 0 0⟩
theorem run_zeroN (W : World) : Sem.run Tryz.prog (zeroValue 50) W = .ok (.agg zN.cells) W := by
  show _ = _; kernel_rfl
theorem infoN (n : NI) : (Tryz.prog.info? 50).map (·.size) = some n.cells.size := by rw [ncells_size]; kernel_rfl

theorem one_cellN (n : NI) (h : n.q.oneCell' = true) : n.cells.all (·.oneCell') = true := by
  rw [Array.all_eq_true]
  intro j hj
  have hj' : j < 282 := by simpa [ncells_size] using hj
  have := ncells_at n j hj'
  rw [Array.getElem?_eq_getElem hj] at this
  rw [Option.some.inj this]
  unfold ncellAt
  split
  · rfl
  · split
    · rfl
    · split
      · unfold cellAt
        split
        · split
          · rfl
          · split <;> rfl
        · split <;> rfl
      · split
        · rfl
        · exact h

theorem set_q (n : NI) (v : Value) : n.cells.setIfInBounds 281 v = (n.setQ v).cells := by
  apply Array.ext_getElem?
  intro j
  rw [Array.getElem?_setIfInBounds]
  by_cases hj : j < 282
  · by_cases hjp : 281 = j
    · subst hjp
      rw [if_pos rfl, if_pos (by rw [ncells_size]; omega), ncells_q]; rfl
    · rw [if_neg hjp, ncells_at n j hj, ncells_at _ j hj]
      congr 1
      unfold ncellAt
      by_cases h1 : j < 7
      · rw [if_pos h1, if_pos h1]
        have hj7 : j = 0 ∨ j = 1 ∨ j = 2 ∨ j = 3 ∨ j = 4 ∨ j = 5 ∨ j = 6 := by omega
        rcases hj7 with rfl | rfl | rfl | rfl | rfl | rfl | rfl <;> rfl
      · rw [if_neg h1, if_neg h1]
        by_cases h2 : j < 13
        · rw [if_pos h2, if_pos h2]; rfl
        · rw [if_neg h2, if_neg h2]
          by_cases h3 : j < 277
          · rw [if_pos h3, if_pos h3]; rfl
          · rw [if_neg h3, if_neg h3]
            by_cases h4 : j < 281
            · rw [if_pos h4, if_pos h4]; rfl
            · omega
  · have h1 : n.cells[j]? = none := Array.getElem?_eq_none (by rw [ncells_size]; omega)
    have h2 : (n.setQ v).cells[j]? = none := Array.getElem?_eq_none (by rw [ncells_size]; omega)
    rw [h1, h2, if_neg (by omega)]

theorem append_none (cap : Nat) (W : World) : Sem.run Tryz.prog (Builtin.append_ #[48, 48] 48 #[.slice none 0 0, .slice none 0 cap]) W = .ok (.slice none 0 0) W := by
  show _ = _; kernel_rfl

theorem info_int : ∃ i, Tryz.prog.info? 3 = some i ∧ i.zero = some (.int .i64 0) ∧ i.size = 1 ∧ i.bytes = 8 := by
  have h : (Tryz.prog.info? 3).map (fun i => (i.zero, i.size, i.bytes)) = some (some (.int .i64 0), 1, 8) := by kernel_rfl
  cases hq : Tryz.prog.info? 3 with
  | none => simp [hq] at h
  | some i =>
    simp [hq] at h
    exact ⟨i, rfl, h.1, h.2.1, h.2.2⟩

theorem own_shape {w : World} {base : Nat} {e : TypeId} {size : Nat} {v : Value} {n : Nat} {xs : List Value} (h : w.ownsRow base e size v n xs) : ∃ a c, v = .slice a n c := by
  rcases h.2 with ⟨rfl, rfl⟩ | ⟨g, cap, cur, rfl, _⟩
  · exact ⟨_, _, rfl⟩
  · exact ⟨_, _, rfl⟩
theorem own_one {w : World} {base : Nat} {e : TypeId} {size : Nat} {v : Value} {n : Nat} {xs : List Value} (h : w.ownsRow base e size v n xs) : v.oneCell' = true := by
  rcases h.2 with ⟨rfl, _⟩ | ⟨g, cap, cur, rfl, _⟩ <;> rfl
theorem own_kept {W W' : World} {base g : Nat} {e : TypeId} {size : Nat} {v : Value} {n : Nat} {xs : List Value} (h : W.ownsRow base e size v n xs) (K : Kept g W W') (hg : g < base) : W'.ownsRow base e size v n xs := by
  refine ⟨h.1, ?_⟩
  rcases h.2 with h2 | ⟨g', cap, cur, hv, hb, hh, h3⟩
  · exact Or.inl h2
  · exact Or.inr ⟨g', cap, cur, hv, hb, K.blk g' cur e (by omega) hh, h3⟩
theorem own_below {W W' : World} {base : Nat} {e : TypeId} {size : Nat} {v : Value} {n : Nat} {xs : List Value} (h : W.ownsRow base e size v n xs) (hb : Below W.heap.size W W') : W'.ownsRow base e size v n xs := by
  refine ⟨h.1, ?_⟩
  rcases h.2 with h2 | ⟨g', cap, cur, hv, hb', hh, h3⟩
  · exact Or.inl h2
  · exact Or.inr ⟨g', cap, cur, hv, hb', Blk.below (show Blk W g' cur e from hh) hb, h3⟩
theorem own_mono {W : World} {base base' : Nat} {e : TypeId} {size : Nat} {v : Value} {n : Nat} {xs : List Value} (h : W.ownsRow base e size v n xs) (hb : base' ≤ base) : W.ownsRow base' e size v n xs := by
  refine ⟨h.1, ?_⟩
  rcases h.2 with h2 | ⟨g', cap, cur, hv, hb', hh, h3⟩
  · exact Or.inl h2
  · exact Or.inr ⟨g', cap, cur, hv, by omega, hh, h3⟩
theorem result_node {fn : Func} {p : Tmp} (h : fn.results = #[.cell p 50]) (tmps : Array Value) (W : World) (g : Nat) (n : NI) (hp : tmps.getD p undef = .pointer (some ⟨g, 0, none⟩)) (hg : Blk W g n.cells 50) :
    (results fn tmps).run Tryz.prog W = .ok (.agg n.cells) W :=
  results_cell_row h tmps W g 50 n.cells (0, 0) _ hp hg Tryz.underlying50 rfl (infoN n)

theorem blk_grown {W W' : World} {row : Option Nat} {g : Nat} {C : Array Value} {t : TypeId} (h : Blk W g C t) (hg : W.grownBy W' row) (hne : some g ≠ row) : Blk W' g C t := by
  unfold Blk; rw [hg.block g h.lt hne]; exact h
theorem below_grown {W W' : World} (hg : W.grownBy W' none) : Below W.heap.size W W' := ⟨hg.os, hg.tape, hg.output, hg.size, fun k hk => hg.block k hk (by simp)⟩

set_option maxRecDepth 100000 in
set_option maxHeartbeats 1000000 in
theorem copyNode_some (n : NI) (l : List Int) (w : World) (ad : Addr) (cap : Nat) (hqv : n.q = .slice (some ad) l.length cap) (hcells : ∀ i v, l[i]? = some v → w.cell? (ad.add i) = some (.int .i64 v)) (hl : l.length * 8 ≤ 140737488355328) :
    Calls Tryz.prog 70 #[.agg n.cells] w fun e w' => ∃ q, e = .returned (.agg (n.setQ q).cells) ∧ w'.ownsRow w.heap.size 3 1 q l.length (l.map (Value.int .i64)) ∧ Below w.heap.size w w' := by
  have hz := run_zeroN
  obtain ⟨i0, hi, hz0, hz1, hz2⟩ := info_int
  have c7 := ncells_q n
  rw [hqv] at c7
  have B0 : Blk ((w.alloc (.cells n.cells 50)).alloc (.cells zN.cells 50)) w.heap.size n.cells 50 := (Blk.new w _ _).alloc _
  have B1 : Blk ((w.alloc (.cells n.cells 50)).alloc (.cells zN.cells 50)) (w.heap.size + 1) zN.cells 50 := Blk.new1 w _ _ _
  have hbel : Below w.heap.size w ((w.alloc (.cells n.cells 50)).alloc (.cells zN.cells 50)) := by go_grown
  have hn1 : (l.map (Value.int .i64)).length = l.length * 1 := by simp
  have hnews : ∀ (j : Nat) (u : Value), (l.map (Value.int .i64))[j]? = some u → ((w.alloc (.cells n.cells 50)).alloc (.cells zN.cells 50)).cell? (ad.add j) = some u := fun j u hu => by
    rw [List.getElem?_map] at hu
    cases hx : l[j]? with
    | none => rw [hx] at hu; cases hu
    | some v =>
      rw [hx] at hu
      rw [cell_on (hcells j v hx) hbel]; exact hu
  have hone : ∀ u : Value, u ∈ l.map (Value.int .i64) → u.oneCell' = true := fun u hu => by
    obtain ⟨v, _, rfl⟩ := List.mem_map.1 hu; rfl
  have h63 : 0 + l.length ≤ maxLen := by unfold maxLen; omega
  have hby : (0 + l.length) * 8 ≤ 140737488355328 := by omega
  have hba : w.heap.size + 1 + 1 ≤ ((w.alloc (.cells n.cells 50)).alloc (.cells zN.cells 50)).heap.size := by simp
  go_enter Tryz.func70, Tryz.ntmps70
  go_wp2_with (first
    | (at_builtin; refine wpList_append_own _ rfl _ _ 48 rfl (w.heap.size + 1 + 1) 3 i0 (.int .i64 0) 1 8 Tryz.underlying48 hi hz0 hz1 hz2 rfl (by decide) (.slice none 0 0) 0 [] rfl (World.ownsRow_nil _ _ _ _) ad l.length cap (l.map (Value.int .i64)) rfl hn1 hnews hone h63 hby hba ?_; intro v1 w1 hown hgrow hnil; obtain ⟨sa, sc, hv⟩ := own_shape hown; subst hv; simp only [Nat.zero_add, List.nil_append] at hown; have BW := blk_grown B0 hgrow (fun h => by cases h); have BZ := blk_grown B1 hgrow (fun h => by cases h); have e7 := BW.cell 281; have f7 := BW.free 281; rw [c7] at e7; have BQ := BW.setCell 281 (.slice sa (0 + l.length) sc); rw [set_q] at BQ; have BY := BZ.setCell_other ⟨w.heap.size, 281, none⟩ (.slice sa (0 + l.length) sc) (by simp); simp only [Nat.zero_add] at BQ BY)
    | (refine wpList_load_blk rfl 50 _ rfl w.heap.size rfl 50 (n.setQ (.slice sa l.length sc)).cells _ BQ Tryz.underlying50 rfl (infoN _) ?_)
    | (refine wpList_store_blk rfl 50 _ _ rfl (w.heap.size + 1) zN.cells (n.setQ (.slice sa l.length sc)).cells 50 rfl rfl BY (by rw [ncells_size, ncells_size]) (infoN _) (one_cellN _ rfl) ?_; rintro w2 B3 K2))
  exact bodyPost_ret (v := .agg (n.setQ (.slice sa l.length sc)).cells) (result_node rfl _ _ (w.heap.size + 1) _ rfl B3) rfl
    ⟨_, rfl, own_mono (own_kept (own_kept hown (kept_setCell w.heap.size 281 _ _) (by omega)) K2 (by omega)) (by omega), K2.bel _ _ (by omega) ((hbel.trans ((below_grown hgrow).mono (by simp; omega))).setCell (Nat.le_refl _) _)⟩
set_option maxRecDepth 100000 in
set_option maxHeartbeats 1000000 in
theorem copyNode_none (n : NI) (w : World) (cap : Nat) (hqv : n.q = .slice none 0 cap) :
    Calls Tryz.prog 70 #[.agg n.cells] w fun e w' => ∃ q, e = .returned (.agg (n.setQ q).cells) ∧ w'.ownsRow w.heap.size 3 1 q 0 [] ∧ Below w.heap.size w w' := by
  have hz := run_zeroN
  have happ := append_none cap
  have c7 := ncells_q n
  rw [hqv] at c7
  have B0 : Blk ((w.alloc (.cells n.cells 50)).alloc (.cells zN.cells 50)) w.heap.size n.cells 50 := (Blk.new w _ _).alloc _
  have B1 : Blk ((w.alloc (.cells n.cells 50)).alloc (.cells zN.cells 50)) (w.heap.size + 1) zN.cells 50 := Blk.new1 w _ _ _
  have hbel : Below w.heap.size w ((w.alloc (.cells n.cells 50)).alloc (.cells zN.cells 50)) := by go_grown
  have BQ : Blk ((w.alloc (.cells (n.cells.setIfInBounds 281 (.slice none 0 0)) 50)).alloc (.cells zN.cells 50)) w.heap.size (n.setQ (.slice none 0 0)).cells 50 := by
    have := (Blk.new w (n.cells.setIfInBounds 281 (.slice none 0 0)) 50).alloc (.cells zN.cells 50)
    rw [set_q] at this ⊢; exact this
  have BY : Blk ((w.alloc (.cells (n.cells.setIfInBounds 281 (.slice none 0 0)) 50)).alloc (.cells zN.cells 50)) (w.heap.size + 1) zN.cells 50 := Blk.new1 w _ _ _
  have hb2 : Below w.heap.size w ((w.alloc (.cells (n.cells.setIfInBounds 281 (.slice none 0 0)) 50)).alloc (.cells zN.cells 50)) := by go_grown
  clear B0 B1 hbel
  go_enter Tryz.func70, Tryz.ntmps70
  go_wp2_with (first
    | (refine wpList_load_blk rfl 50 _ rfl w.heap.size rfl 50 (n.setQ (.slice none 0 0)).cells _ BQ Tryz.underlying50 rfl (infoN _) ?_)
    | (refine wpList_store_blk rfl 50 _ _ rfl (w.heap.size + 1) zN.cells (n.setQ (.slice none 0 0)).cells 50 rfl rfl BY (by rw [ncells_size, ncells_size]) (infoN _) (one_cellN _ rfl) ?_; rintro w2 B3 K2))
  exact bodyPost_ret (v := .agg (n.setQ (.slice none 0 0)).cells) (result_node rfl _ _ (w.heap.size + 1) _ rfl B3) rfl
    ⟨_, rfl, World.ownsRow_nil _ _ _ _, K2.bel _ _ (by omega) hb2⟩

theorem copyNode_any (n : NI) (l : List Int) (w : World) (hq : Ints w n.q l) (hl : l.length * 8 ≤ 140737488355328) :
    Calls Tryz.prog 70 #[.agg n.cells] w fun e w' => ∃ q, e = .returned (.agg (n.setQ q).cells) ∧ w'.ownsRow w.heap.size 3 1 q l.length (l.map (Value.int .i64)) ∧ Below w.heap.size w w' := by
  rcases hq with ⟨rfl, cap, hv⟩ | ⟨ad, cap, hv, hc⟩
  · exact copyNode_none n w cap hv
  · exact copyNode_some n l w ad cap hv hc hl

/-- What owns its numbers has them. -/
theorem own_ints {W : World} {base : Nat} {q : Value} {l : List Int} (h : W.ownsRow base 3 1 q l.length (l.map (Value.int .i64))) : Ints W q l := by
  rcases h.2 with ⟨rfl, h0⟩ | ⟨g, cap, cur, rfl, _, hh, _, _, hs, ht⟩
  · exact Or.inl ⟨List.eq_nil_of_length_eq_zero h0, 0, rfl⟩
  · refine Or.inr ⟨⟨g, 0, none⟩, cap, rfl, fun i v hv => ?_⟩
    have hi : i < l.length := by
      by_cases hlt : i < l.length
      · exact hlt
      · rw [List.getElem?_eq_none (by omega)] at hv; cases hv
    have hB : Blk W g cur 3 := hh
    rw [Addr.add_mid, hB.cell, Nat.zero_add]
    have h1 : (cur.toList.take (l.length * 1))[i]? = some (Value.int .i64 v) := by rw [ht, List.getElem?_map, hv]; rfl
    rw [List.getElem?_take, if_pos (by omega), Array.getElem?_toList] at h1
    exact h1
end Go.Proofs.YtmmgaonlmpajbacGreat
namespace Go.Proofs.YtmmgaonlmpajbacGreat
open Go.ChangeShapes Go.WideShapes Go.ChangeAt Go.RowKit
set_option maxRecDepth 100000

section
variable {H : Type} {enc : TypeId × Value → H} {w : World} {base : Nat} {spare : Nat → Bool} {held : Bool}

/-- What the 66 cells of a sheet are. -/
def SheetCells (cs : List Value) : Prop :=
  (∀ r, r < 6 → (∃ b, cs[r * 3]? = some (.bool b)) ∧ (∃ n, cs[r * 3 + 1]? = some (.int .i64 n)) ∧ (∃ n, cs[r * 3 + 2]? = some (.int .i64 n))) ∧
  (∀ r i, r < 6 → i < 4 → ∃ n, cs[18 + r * 4 + i]? = some (.int .i64 n)) ∧ (∀ r i, r < 6 → i < 4 → ∃ n, cs[42 + r * 4 + i]? = some (.int .i64 n))
theorem sheet_cells {fuel : Nat} {cs : List Value} {x : DataW H × List MemPlace} (h : DataW.trod enc Tryz.prog w base spare held fuel 46 cs = some x) : SheetCells cs := by
  obtain ⟨xs, n, _, _, hl, hlen, hfs⟩ := DataW.trod_struct Tryz.underlying46 h
  match xs, hlen with
  | [y0, y1, y2], _ =>
    have g0 : DataW.trod enc Tryz.prog w base spare held n 42 ((cs.drop 0).take (Tryz.prog.cellsOf 42)) = some y0 := hfs 0 _ rfl
    have g1 : DataW.trod enc Tryz.prog w base spare held n 44 ((cs.drop 18).take (Tryz.prog.cellsOf 44)) = some y1 := hfs 1 _ rfl
    have g2 : DataW.trod enc Tryz.prog w base spare held n 44 ((cs.drop 42).take (Tryz.prog.cellsOf 44)) = some y2 := hfs 2 _ rfl
    rw [show Tryz.prog.cellsOf 42 = 18 by kernel_rfl] at g0
    rw [show Tryz.prog.cellsOf 44 = 24 by kernel_rfl] at g1 g2
    have c0 := calls_cells g0
    have c1 := rows_cells g1
    have c2 := rows_cells g2
    refine ⟨fun r hr => ?_, fun r i hr hi => ?_, fun r i hr hi => ?_⟩
    · have := c0 r hr
      simp only [List.drop_zero] at this
      rw [List.getElem?_take, List.getElem?_take, List.getElem?_take, if_pos (by omega), if_pos (by omega), if_pos (by omega)] at this
      obtain ⟨h1, ⟨a, h2, _⟩, ⟨b, h3, _⟩⟩ := this
      exact ⟨h1, ⟨a, h2⟩, ⟨b, h3⟩⟩
    · obtain ⟨a, ha, _⟩ := c1 r i hr hi
      rw [List.getElem?_take, if_pos (by omega), List.getElem?_drop] at ha
      exact ⟨a, by rw [show 18 + r * 4 + i = 18 + (r * 4 + i) by omega]; exact ha⟩
    · obtain ⟨a, ha, _⟩ := c2 r i hr hi
      rw [List.getElem?_take, if_pos (by omega), List.getElem?_drop] at ha
      exact ⟨a, by rw [show 42 + r * 4 + i = 42 + (r * 4 + i) by omega]; exact ha⟩

def shAt (C : Array Value) (o : Nat) : Sh := ⟨fun r => boolAt C (o + r * 3), fun r => intAt C (o + (r * 3 + 1)), fun r => intAt C (o + (r * 3 + 2)), fun r i => intAt C (o + (18 + r * 4 + i)), fun r i => intAt C (o + (42 + r * 4 + i))⟩
def niOf (C : Array Value) : NI := ⟨intAt C 0, intAt C 1, intAt C 2, intAt C 3, intAt C 4, intAt C 5, intAt C 6, fun r => boolAt C (7 + r), fun h => shAt C (13 + h * 66), fun h => intAt C (277 + h), C.getD 281 undef⟩

theorem sh_cell {C : Array Value} {o : Nat} (h : SheetCells ((C.toList.drop o).take 66)) (j : Nat) (hj : j < 66) : C[o + j]? = some (cellAt (shAt C o) j) := by
  have hget : ∀ k, k < 66 → ((C.toList.drop o).take 66)[k]? = C[o + k]? := fun k hk => by
    rw [List.getElem?_take, if_pos hk, List.getElem?_drop, Array.getElem?_toList]
  have hcase : (∃ r, r < 6 ∧ j = r * 3) ∨ (∃ r, r < 6 ∧ j = r * 3 + 1) ∨ (∃ r, r < 6 ∧ j = r * 3 + 2) ∨ (∃ r i, r < 6 ∧ i < 4 ∧ j = 18 + r * 4 + i) ∨ (∃ r i, r < 6 ∧ i < 4 ∧ j = 42 + r * 4 + i) := by
    by_cases h1 : j < 18
    · have : j % 3 = 0 ∨ j % 3 = 1 ∨ j % 3 = 2 := by omega
      rcases this with h3 | h3 | h3
      · exact Or.inl ⟨j / 3, by omega, by omega⟩
      · exact Or.inr (Or.inl ⟨j / 3, by omega, by omega⟩)
      · exact Or.inr (Or.inr (Or.inl ⟨j / 3, by omega, by omega⟩))
    · by_cases h2 : j < 42
      · exact Or.inr (Or.inr (Or.inr (Or.inl ⟨(j - 18) / 4, (j - 18) % 4, by omega, by omega, by omega⟩)))
      · exact Or.inr (Or.inr (Or.inr (Or.inr ⟨(j - 42) / 4, (j - 42) % 4, by omega, by omega, by omega⟩)))
  rcases hcase with ⟨r, hr, rfl⟩ | ⟨r, hr, rfl⟩ | ⟨r, hr, rfl⟩ | ⟨r, i, hr, hi, rfl⟩ | ⟨r, i, hr, hi, rfl⟩
  · obtain ⟨⟨b, e⟩, _, _⟩ := h.1 r hr
    rw [hget _ hj] at e
    rw [cellAt_is _ r hr, e]; simp [shAt, boolAt, e]
  · obtain ⟨_, ⟨n, e⟩, _⟩ := h.1 r hr
    rw [hget _ hj] at e
    rw [cellAt_val _ r hr, e]; simp [shAt, intAt, e]
  · obtain ⟨_, _, ⟨n, e⟩⟩ := h.1 r hr
    rw [hget _ hj] at e
    rw [cellAt_vld _ r hr, e]; simp [shAt, intAt, e]
  · obtain ⟨n, e⟩ := h.2.1 r i hr hi
    rw [hget _ hj] at e
    rw [cellAt_wi _ r i hr hi, e]; simp [shAt, intAt, e]
  · obtain ⟨n, e⟩ := h.2.2 r i hr hi
    rw [hget _ hj] at e
    rw [cellAt_pr _ r i hr hi, e]; simp [shAt, intAt, e]

theorem int_at {fuel : Nat} {cs : List Value} {o : Nat} {x : DataW H × List MemPlace} (h : DataW.trod enc Tryz.prog w base spare held fuel 3 ((cs.drop o).take (Tryz.prog.cellsOf 3)) = some x) : ∃ n, cs[o]? = some (.int .i64 n) := by
  rw [show Tryz.prog.cellsOf 3 = 1 by kernel_rfl] at h
  obtain ⟨n, e, _, _⟩ := DataW.trod_int Tryz.underlying3 h
  exact ⟨n, at_of_take e⟩

set_option maxRecDepth 100000 in
theorem open_node {r : Reach} {b0 : Nat} {u : Value} {d : DataW H} {p : List MemPlace} (hv : Value.okWide Tryz.prog w r b0 50 u) (h : DataW.Trod enc Tryz.prog w base spare held 50 u d p) :
    ∃ (n : NI) (l : List Int) (xs : List (DataW H)) (y : DataW H), u = .agg n.cells ∧ Ints w n.q l ∧ d = .agg xs ∧ xs.length = 11 ∧ xs[10]? = some y ∧ (l = [] ∨ ∃ e s, y = .slice e s ∧ l.length ≤ e.length) := by
  obtain ⟨C, rfl, hsz⟩ := okWide_struct Tryz.underlying50 hv
  rw [show Tryz.prog.cellsOf 50 = 282 by kernel_rfl] at hsz
  obtain ⟨fuel, hf⟩ := h
  obtain ⟨ys, n, _, hx, hl, hlen, hfs⟩ := DataW.trod_struct Tryz.underlying50 hf
  match ys, hlen with
  | [y0, y1, y2, y3, y4, y5, y6, y7, y8, y9, y10], _ =>
    have g0 := int_at (show DataW.trod enc Tryz.prog w base spare held n 3 ((C.toList.drop 0).take (Tryz.prog.cellsOf 3)) = some y0 from hfs 0 _ rfl)
    have g1 := int_at (show DataW.trod enc Tryz.prog w base spare held n 3 ((C.toList.drop 1).take (Tryz.prog.cellsOf 3)) = some y1 from hfs 1 _ rfl)
    have g2 := int_at (show DataW.trod enc Tryz.prog w base spare held n 3 ((C.toList.drop 2).take (Tryz.prog.cellsOf 3)) = some y2 from hfs 2 _ rfl)
    have g3 := int_at (show DataW.trod enc Tryz.prog w base spare held n 3 ((C.toList.drop 3).take (Tryz.prog.cellsOf 3)) = some y3 from hfs 3 _ rfl)
    have g4 := int_at (show DataW.trod enc Tryz.prog w base spare held n 3 ((C.toList.drop 4).take (Tryz.prog.cellsOf 3)) = some y4 from hfs 4 _ rfl)
    have g5 := int_at (show DataW.trod enc Tryz.prog w base spare held n 3 ((C.toList.drop 5).take (Tryz.prog.cellsOf 3)) = some y5 from hfs 5 _ rfl)
    have g6 := int_at (show DataW.trod enc Tryz.prog w base spare held n 3 ((C.toList.drop 6).take (Tryz.prog.cellsOf 3)) = some y6 from hfs 6 _ rfl)
    have g7 : DataW.trod enc Tryz.prog w base spare held n 39 ((C.toList.drop 7).take (Tryz.prog.cellsOf 39)) = some y7 := hfs 7 _ rfl
    have g8 : DataW.trod enc Tryz.prog w base spare held n 47 ((C.toList.drop 13).take (Tryz.prog.cellsOf 47)) = some y8 := hfs 8 _ rfl
    have g9 : DataW.trod enc Tryz.prog w base spare held n 31 ((C.toList.drop 277).take (Tryz.prog.cellsOf 31)) = some y9 := hfs 9 _ rfl
    have g10 : DataW.trod enc Tryz.prog w base spare held n 48 ((C.toList.drop 281).take (Tryz.prog.cellsOf 48)) = some y10 := hfs 10 _ rfl
    rw [show Tryz.prog.cellsOf 39 = 6 by kernel_rfl] at g7
    rw [show Tryz.prog.cellsOf 47 = 264 by kernel_rfl] at g8
    rw [show Tryz.prog.cellsOf 31 = 4 by kernel_rfl] at g9
    rw [show Tryz.prog.cellsOf 48 = 1 by kernel_rfl] at g10
    have k7 : ∀ j, j < 6 → ∃ b, C[7 + j]? = some (.bool b) := fun j hj => by
      obtain ⟨xs, m, _, _, hl, hn, hx⟩ := DataW.trod_array Tryz.underlying39 g7
      have h1 := hx j hj
      rw [show Tryz.prog.cellsOf 4 = 1 by kernel_rfl, Nat.mul_one, List.getElem?_eq_getElem (by omega)] at h1
      obtain ⟨b, e, _⟩ := DataW.trod_bool Tryz.underlying4 h1
      have e' := at_of_take e
      rw [List.getElem?_take, if_pos hj, List.getElem?_drop, Array.getElem?_toList] at e'
      exact ⟨b, e'⟩
    have k9 : ∀ j, j < 4 → ∃ a, C[277 + j]? = some (.int .i64 a) := fun j hj => by
      obtain ⟨xs, m, _, _, hl, hn, hx⟩ := DataW.trod_array Tryz.underlying31 g9
      have h1 := hx j hj
      rw [show Tryz.prog.cellsOf 3 = 1 by kernel_rfl, Nat.mul_one, List.getElem?_eq_getElem (by omega)] at h1
      obtain ⟨b, e, _, _⟩ := DataW.trod_int Tryz.underlying3 h1
      have e' := at_of_take e
      rw [List.getElem?_take, if_pos hj, List.getElem?_drop, Array.getElem?_toList] at e'
      exact ⟨b, e'⟩
    have k8 : ∀ j, j < 4 → SheetCells ((C.toList.drop (13 + j * 66)).take 66) := fun j hj => by
      obtain ⟨xs, m, _, _, hl, hn, hx⟩ := DataW.trod_array Tryz.underlying47 g8
      have h1 := hx j hj
      rw [show Tryz.prog.cellsOf 46 = 66 by kernel_rfl, List.getElem?_eq_getElem (by omega)] at h1
      have h2 := sheet_cells h1
      have e : ((((C.toList.drop 13).take 264).drop (j * 66)).take 66) = ((C.toList.drop (13 + j * 66)).take 66) := by
        rw [List.drop_take, List.take_take, List.drop_drop, Nat.min_eq_left (by omega)]
      rw [e] at h2
      exact h2
    have k10 : ∃ q l, C[281]? = some q ∧ Ints w q l ∧ (l = [] ∨ ∃ e s, y10.1 = .slice e s ∧ l.length ≤ e.length) := by
      rcases open_ints Tryz.underlying48 Tryz.underlying3 (by kernel_rfl) g10 with ⟨e, _⟩ | ⟨a, len, cap, zs, e, _, hl1, _, hl2, hy, hc, _⟩
      · exact ⟨_, [], by rw [← Array.getElem?_toList]; exact at_of_take e, Or.inl ⟨rfl, 0, rfl⟩, Or.inl rfl⟩
      · have hle : len ≤ zs.length := by rw [hl2]; split <;> omega
        refine ⟨_, zs.take len, by rw [← Array.getElem?_toList]; exact at_of_take e, Or.inr ⟨a, cap, by rw [List.length_take, Nat.min_eq_left hle], fun i v hv => ?_⟩, Or.inr ⟨_, _, by rw [hy], by simp [lits]⟩⟩
        have hi : i < len := by
          by_cases hlt : i < len
          · exact hlt
          · rw [List.getElem?_take, if_neg hlt] at hv; cases hv
        rw [List.getElem?_take, if_pos hi] at hv
        rw [hc i (by omega), List.getD_eq_getElem?_getD, hv]; rfl
    obtain ⟨q, l, e281, hI, hy⟩ := k10
    rw [Array.getElem?_toList] at g0 g1 g2 g3 g4 g5 g6
    refine ⟨niOf C, l, [y0.1, y1.1, y2.1, y3.1, y4.1, y5.1, y6.1, y7.1, y8.1, y9.1, y10.1], y10.1, ?_, ?_, ?_, rfl, rfl, hy⟩
    · congr 1
      apply Array.ext_getElem?
      intro j
      by_cases hj : j < 282
      · rw [ncells_at _ j hj]
        unfold ncellAt
        by_cases c1 : j < 7
        · rw [if_pos c1]
          have hc : j = 0 ∨ j = 1 ∨ j = 2 ∨ j = 3 ∨ j = 4 ∨ j = 5 ∨ j = 6 := by omega
          rcases hc with rfl | rfl | rfl | rfl | rfl | rfl | rfl
          · obtain ⟨a, e⟩ := g0; rw [e]; simp [niOf, NI.num, intAt, e]
          · obtain ⟨a, e⟩ := g1; rw [e]; simp [niOf, NI.num, intAt, e]
          · obtain ⟨a, e⟩ := g2; rw [e]; simp [niOf, NI.num, intAt, e]
          · obtain ⟨a, e⟩ := g3; rw [e]; simp [niOf, NI.num, intAt, e]
          · obtain ⟨a, e⟩ := g4; rw [e]; simp [niOf, NI.num, intAt, e]
          · obtain ⟨a, e⟩ := g5; rw [e]; simp [niOf, NI.num, intAt, e]
          · obtain ⟨a, e⟩ := g6; rw [e]; simp [niOf, NI.num, intAt, e]
        · rw [if_neg c1]
          by_cases c2 : j < 13
          · rw [if_pos c2]
            obtain ⟨b, e⟩ := k7 (j - 7) (by omega)
            rw [show 7 + (j - 7) = j by omega] at e
            rw [e]
            simp [niOf, boolAt, show 7 + (j - 7) = j by omega, e]
          · rw [if_neg c2]
            by_cases c3 : j < 277
            · rw [if_pos c3]
              have := sh_cell (k8 ((j - 13) / 66) (by omega)) ((j - 13) % 66) (by omega)
              rw [show 13 + (j - 13) / 66 * 66 + (j - 13) % 66 = j by omega] at this
              rw [this]; rfl
            · rw [if_neg c3]
              by_cases c4 : j < 281
              · rw [if_pos c4]
                obtain ⟨b, e⟩ := k9 (j - 277) (by omega)
                rw [show 277 + (j - 277) = j by omega] at e
                rw [e]
                simp [niOf, intAt, show 277 + (j - 277) = j by omega, e]
              · rw [if_neg c4]
                obtain rfl : j = 281 := by omega
                rw [e281]; simp [niOf, e281]
      · rw [Array.getElem?_eq_none (by omega), Array.getElem?_eq_none (by rw [ncells_size]; omega)]
    · have : (niOf C).q = q := by simp [niOf, e281]
      rw [this]; exact hI
    · simp only [Prod.mk.injEq] at hx
      rw [hx.1]; rfl
end
end Go.Proofs.YtmmgaonlmpajbacGreat
