/-
  The landed package crowd: told, Take: what so many tell that one of them is true, height by height.
-/
import Derived.Test.YtmmgaonlmpajbacGreatNodeB
namespace Go.Proofs.YtmmgaonlmpajbacGreat
open Go.RowKit

/-- What four nodes tell of four heights: its cells. -/
def lcells (l : Nat → Nat → Int) : Array Value := ((List.range 16).map fun j => Value.int .i64 (l (j / 4) (j % 4))).toArray
theorem lcells_size (l : Nat → Nat → Int) : (lcells l).size = 16 := by simp [lcells]
theorem lcells_at (l : Nat → Nat → Int) (i h : Nat) (hi : i < 4) (hh : h < 4) : (lcells l)[i * 4 + h]? = some (.int .i64 (l i h)) := by
  have : i * 4 + h < 16 := by omega
  have e1 : (i * 4 + h) / 4 = i := by omega
  have e2 : (i * 4 + h) % 4 = h := by omega
  simp only [lcells, List.getElem?_toArray, List.getElem?_map, List.getElem?_range this, Option.map_some, e1, e2]
/-- Four numbers as they lie. -/
def four (f : Nat → Int) : Array Value := #[.int .i64 (f 0), .int .i64 (f 1), .int .i64 (f 2), .int .i64 (f 3)]

/-- How many of the first k tell v. -/
def tellers (f : Nat → Int) (v : Int) : Nat → Int
  | 0 => 0
  | k + 1 => tellers f v k + if f k = v then 1 else 0
theorem tellers_le (f : Nat → Int) (v : Int) : ∀ k, 0 ≤ tellers f v k ∧ tellers f v k ≤ k
  | 0 => by simp [tellers]
  | k + 1 => by
    have := tellers_le f v k
    simp only [tellers]
    split <;> omega

/-- The least value that two of four tell; 0: there is none. -/
def toldV (f : Nat → Int) : Int :=
  match (List.range 9).find? (fun k : Nat => decide (2 ≤ tellers f ((k : Int) + 1) 4)) with
  | some k => (k : Int) + 1
  | none => 0
theorem told_some {f : Nat → Int} {v : Nat} (h1 : 1 ≤ v) (h9 : v ≤ 9) (h2 : 2 ≤ tellers f v 4) (hno : ∀ j : Nat, 1 ≤ j → j < v → tellers f j 4 < 2) : toldV f = v := by
  have key : (List.range 9).find? (fun k : Nat => decide (2 ≤ tellers f ((k : Int) + 1) 4)) = some (v - 1) := by
    rw [List.find?_range_eq_some]
    refine ⟨?_, ?_, ?_⟩
    · rw [show ((v - 1 : Nat) : Int) + 1 = v by omega]; simpa using h2
    · simp; omega
    · intro j hj
      have := hno (j + 1) (by omega) (by omega)
      rw [show ((j + 1 : Nat) : Int) = (j : Int) + 1 by omega] at this
      simp; omega
  unfold toldV
  rw [key]
  show ((v - 1 : Nat) : Int) + 1 = v
  omega
theorem told_none {f : Nat → Int} (hno : ∀ j : Nat, 1 ≤ j → j < 10 → tellers f j 4 < 2) : toldV f = 0 := by
  have key : (List.range 9).find? (fun k : Nat => decide (2 ≤ tellers f ((k : Int) + 1) 4)) = none := by
    rw [List.find?_range_eq_none]
    intro j hj
    have := hno (j + 1) (by omega) (by omega)
    rw [show ((j + 1 : Nat) : Int) = (j : Int) + 1 by omega] at this
    simp; omega
  unfold toldV
  rw [key]

theorem lrow {W : World} {b : Nat} {l : Nat → Nat → Int} {t : TypeId} (B : Blk W b (lcells l) t) (i : Nat) (hi : i < 4) : W.rangeAt b (i * 4) (four (l i)).toList := by
  intro j u hu
  have hj : j < 4 := by
    by_cases c : j < 4
    · exact c
    · rw [List.getElem?_eq_none (by show (four (l i)).toList.length ≤ j; simp [four]; omega)] at hu; cases hu
  rw [B.cell, lcells_at l i j hi hj]
  have : j = 0 ∨ j = 1 ∨ j = 2 ∨ j = 3 := by omega
  rcases this with rfl | rfl | rfl | rfl <;> simpa [four] using hu
theorem four_at (f : Nat → Int) (h : Nat) (hh : h < 4) : (four f)[h]? = some (.int .i64 (f h)) := by
  have : h = 0 ∨ h = 1 ∨ h = 2 ∨ h = 3 := by omega
  rcases this with rfl | rfl | rfl | rfl <;> rfl

theorem four_one (f : Nat → Int) : (four f).all (·.oneCell') = true := by show _ = _; kernel_rfl

set_option maxRecDepth 100000 in
set_option maxHeartbeats 2000000 in
theorem told_any {w : World} {b : Nat} {t : TypeId} (l : Nat → Nat → Int) (B : Blk w b (lcells l) t) (h : Nat) (hh : h < 4) :
    Calls Tryz.prog 68 #[.pointer (some ⟨b, 0, none⟩), .int .i64 (h : Int)] w fun e w' => e = .returned (.int .i64 (toldV fun i => l i h)) ∧ Below w.heap.size w w' := by
  have hbw := B.lt
  go_enter Tryz.func68, Tryz.ntmps68
  go_wp2
  go_loopw [5] (fun v W => ∃ k : Nat, 1 ≤ k ∧ k ≤ 10 ∧ v = .int .i64 (k : Int) ∧ Hid (∀ j : Nat, 1 ≤ j → j < k → tellers (fun i => l i h) j 4 < 2) ∧ Below w.heap.size w W) (fun v _ => 10 - (intOf v).toNat)
  case atStart => exact ⟨1, by omega, by omega, rfl, (fun j h1 h2 => by omega), Below.refl _ _⟩
  case round =>
    obtain ⟨k, hk1, hk, rfl, hno, hB⟩ := hrel
    by_cases hlt : k < 10
    · have hlt9 : (k : Int) ≤ 9 := by omega
      go_wp2
      go_loopw [6, 15] (fun n i W => ∃ m : Nat, m ≤ 4 ∧ i = .int .i64 (m : Int) ∧ n = .int .i64 (tellers (fun i => l i h) k m) ∧ Below w.heap.size w W) (fun _ i _ => 4 - (intOf i).toNat)
      case atStart => exact ⟨0, by omega, rfl, rfl, hB⟩
      case round =>
        clear hB
        obtain ⟨m, hm, rfl, rfl, hB⟩ := hrel
        have hd := tellers_le (fun i => l i h) k m
        by_cases hm4 : m < 4
        · have hr := lrow (B.below hB) m hm4
          have HS : Hid (tellers (fun i => l i h) k (m + 1) = tellers (fun i => l i h) k m + if l m h = k then 1 else 0) := rfl
          have hi4 : (Tryz.prog.info? 31).map (·.size) = some (four (l m)).size := by show _ = some 4; kernel_rfl
          have Z : Blk (wr.alloc (.cells #[.int .i64 0, .int .i64 0, .int .i64 0, .int .i64 0] 31)) wr.heap.size #[.int .i64 0, .int .i64 0, .int .i64 0, .int .i64 0] 31 := Blk.new wr _ _
          have L : Below w.heap.size w (wr.alloc (.cells #[.int .i64 0, .int .i64 0, .int .i64 0, .int .i64 0] 31)) := bel_trans hB (by go_grown)
          have ho := four_one (l m)
          have hws := hB.size
          clear B
          by_cases hv : l m h = k
          · have hv' : (l m h == (k : Int)) = true := by simpa using hv
            have HV : Hid (l m h = k) := hv
            clear hv
            go_wp2_with (first
              | (refine wpList_load_part (by rfl) 31 _ rfl b (m * 4) (by first | rfl | simp) (four (l m)) _ hr Tryz.underlying31 rfl hi4 ?_)
              | (refine wpList_store_blk rfl 31 _ _ rfl wr.heap.size #[.int .i64 0, .int .i64 0, .int .i64 0, .int .i64 0] (four (l m)) 31 rfl rfl Z rfl hi4 ho ?_; rintro w3 B3 K3; have c3 := B3.cell h; rw [four_at _ h hh] at c3; have L3 := K3.bel _ _ hws L))
            go_roundw
            case rel => exact ⟨m + 1, by omega, by go_num, by rw [HS.out, if_pos HV.out], L3⟩
            case measure => simp [intOf]; omega
          · have hv' : (l m h == (k : Int)) = false := by simpa using hv
            have HV : Hid (¬ l m h = k) := hv
            clear hv
            go_wp2_with (first
              | (refine wpList_load_part (by rfl) 31 _ rfl b (m * 4) (by first | rfl | simp) (four (l m)) _ hr Tryz.underlying31 rfl hi4 ?_)
              | (refine wpList_store_blk rfl 31 _ _ rfl wr.heap.size #[.int .i64 0, .int .i64 0, .int .i64 0, .int .i64 0] (four (l m)) 31 rfl rfl Z rfl hi4 ho ?_; rintro w3 B3 K3; have c3 := B3.cell h; rw [four_at _ h hh] at c3; have L3 := K3.bel _ _ hws L))
            go_roundw
            case rel => exact ⟨m + 1, by omega, by go_num, by rw [HS.out, if_neg HV.out]; go_num, L3⟩
            case measure => simp [intOf]; omega
        · have hm5 : Hid (m = 4) := show m = 4 by omega
          by_cases h2 : 2 ≤ tellers (fun i => l i h) k m
          · go_wp2
            go_ret
            exact ⟨ret_int (by rw [hm5.out] at h2; exact (told_some hk1 (by omega) h2 hno.out).symm), hB⟩
          · go_wp2
            go_roundw
            case rel =>
              refine ⟨k + 1, by omega, by omega, by go_num, ?_, hB⟩
              show ∀ j : Nat, 1 ≤ j → j < k + 1 → tellers (fun i => l i h) j 4 < 2
              intro j h1 h3
              by_cases e : j = k
              · subst e; rw [hm5.out] at h2; omega
              · exact hno.out j h1 (by omega)
            case measure => simp [intOf]; omega
    · have hk10 : Hid (k = 10) := show k = 10 by omega
      go_wp2
      go_ret
      exact ⟨ret_int (told_none (fun j h1 h2 => hno.out j h1 (by rw [hk10.out]; exact h2))).symm, hB⟩

/-- Up to height h a value is told of each. -/
def toldTo (l : Nat → Nat → Int) : Nat → Bool
  | 0 => true
  | h + 1 => toldTo l h && (toldV (fun i => l i h) != 0)
/-- What a client takes. -/
def takeV (l : Nat → Nat → Int) (h : Nat) : Int := if toldTo l (h + 1) = true then toldV (fun i => l i h) else 0
theorem toldTo_false {l : Nat → Nat → Int} {k m : Nat} (h : toldTo l k = false) (hm : k ≤ m) : toldTo l m = false := by
  induction m with
  | zero => rw [show k = 0 by omega] at h; exact h
  | succ m ih =>
    by_cases e : k = m + 1
    · rw [e] at h; exact h
    · simp [toldTo, ih (by omega)]
theorem four_set (f : Nat → Int) (k : Nat) (hk : k < 4) (v : Int) : (four f).setIfInBounds k (.int .i64 v) = four (fun h => if h = k then v else f h) := by
  have : k = 0 ∨ k = 1 ∨ k = 2 ∨ k = 3 := by omega
  rcases this with rfl | rfl | rfl | rfl <;> rfl
theorem four_congr {f g : Nat → Int} (h : ∀ k, k < 4 → f k = g k) : four f = four g := by
  unfold four
  rw [h 0 (by omega), h 1 (by omega), h 2 (by omega), h 3 (by omega)]

theorem result_four {fn : Func} {p : Tmp} (h : fn.results = #[.cell p 31]) (tmps : Array Value) (W : World) (g : Nat) (f : Nat → Int) {t : TypeId}
    (hp : tmps.getD p undef = .pointer (some ⟨g, 0, none⟩)) (B : Blk W g (four f) t) : (results fn tmps).run Tryz.prog W = .ok (.agg (four f)) W := by
  have hp' : tmps[p]?.getD undef = .pointer (some ⟨g, 0, none⟩) := by simpa using hp
  have he := run_loadVar_mid W g 0 31 (four f).toList _ B.range Tryz.underlying31 rfl (by show _ = some 4; kernel_rfl)
  have he' : Sem.run Tryz.prog (loadVar 31 ⟨g, 0, none⟩) W = .ok (.agg (four f)) W := by simpa using he
  simp [results, h, hp', asAddr, he']

set_option maxRecDepth 100000 in
set_option maxHeartbeats 2000000 in
theorem take_any (l : Nat → Nat → Int) (w : World) :
    Calls Tryz.prog 45 #[.agg (lcells l)] w fun e w' => e = .returned (.agg (four (takeV l))) ∧ Below w.heap.size w w' := by
  have hi4 : (Tryz.prog.info? 31).map (·.size) = some (four (takeV l)).size := by show _ = some 4; kernel_rfl
  have ho := four_one (takeV l)
  have B0 : Blk (((w.alloc (.cells (lcells l) 80)).alloc (.cells #[.int .i64 0, .int .i64 0, .int .i64 0, .int .i64 0] 31)).alloc (.cells #[.int .i64 0, .int .i64 0, .int .i64 0, .int .i64 0] 31)) w.heap.size (lcells l) 80 := ((Blk.new w _ _).alloc _).alloc _
  have R0 : Blk (((w.alloc (.cells (lcells l) 80)).alloc (.cells #[.int .i64 0, .int .i64 0, .int .i64 0, .int .i64 0] 31)).alloc (.cells #[.int .i64 0, .int .i64 0, .int .i64 0, .int .i64 0] 31)) (w.heap.size + 1) (four fun _ => 0) 31 := (Blk.new1 w _ _ _).alloc _
  have T0 : Blk (((w.alloc (.cells (lcells l) 80)).alloc (.cells #[.int .i64 0, .int .i64 0, .int .i64 0, .int .i64 0] 31)).alloc (.cells #[.int .i64 0, .int .i64 0, .int .i64 0, .int .i64 0] 31)) (w.heap.size + 1 + 1) (four fun _ => 0) 31 := Blk.new2 w _ _ _ _
  have L0 : Below w.heap.size w (((w.alloc (.cells (lcells l) 80)).alloc (.cells #[.int .i64 0, .int .i64 0, .int .i64 0, .int .i64 0] 31)).alloc (.cells #[.int .i64 0, .int .i64 0, .int .i64 0, .int .i64 0] 31)) := by go_grown
  go_enter Tryz.func45, Tryz.ntmps45
  go_wp2
  generalize (((w.alloc (.cells (lcells l) 80)).alloc (.cells #[.int .i64 0, .int .i64 0, .int .i64 0, .int .i64 0] 31)).alloc (.cells #[.int .i64 0, .int .i64 0, .int .i64 0, .int .i64 0] 31)) = w0 at B0 R0 T0 L0 ⊢
  go_loopw [6] (fun i W => ∃ k : Nat, k ≤ 4 ∧ i = .int .i64 (k : Int) ∧ Hid (toldTo l k = true) ∧ Blk W w.heap.size (lcells l) 80 ∧ Blk W (w.heap.size + 1) (four fun _ => 0) 31 ∧ Blk W (w.heap.size + 1 + 1) (four fun h => if h < k then takeV l h else 0) 31 ∧ Below w.heap.size w W) (fun i _ => 4 - (intOf i).toNat)
  case atStart => exact ⟨0, by omega, rfl, rfl, B0, R0, T0, L0⟩
  case round =>
    clear B0 R0 T0 L0
    obtain ⟨k, hk, rfl, hal, B1, R1, T1, hB⟩ := hrel
    by_cases hlt : k < 4
    · have hc := told_any l B1 k hlt
      generalize hv : toldV (fun i => l i k) = v at hc
      have HV : Hid (toldV (fun i => l i k) = v) := hv
      clear hv
      by_cases h0 : v = 0
      · have h0' : (v == 0) = true := by simpa using h0
        have HF : Hid (toldTo l (k + 1) = false) := show _ = _ by simp [toldTo, HV.out, h0]
        have HT : four (fun h => if h < k then takeV l h else 0) = four (takeV l) := four_congr (fun h hh => by
          by_cases c : h < k
          · rw [if_pos c]
          · rw [if_neg c]; unfold takeV; rw [toldTo_false HF.out (by omega)]; rfl)
        rw [HT] at T1
        clear HT h0
        go_wp2_with (first
          | (go_at_call 68; refine hc.mono ?_; clear hc; rintro e w2 ⟨rfl, L2⟩; have T2 := T1.below L2; have R2 := R1.below L2; have LL := bel_trans hB L2)
          | (refine wpList_load_part (by rfl) 31 _ rfl (w.heap.size + 1 + 1) 0 rfl (four (takeV l)) _ T2.range Tryz.underlying31 rfl hi4 ?_)
          | (refine wpList_store_blk rfl 31 _ _ rfl (w.heap.size + 1) (four fun _ => 0) (four (takeV l)) 31 rfl rfl R2 rfl hi4 ho ?_; rintro w3 B3 K3))
        exact bodyPost_ret (result_four rfl _ _ (w.heap.size + 1) _ rfl B3) rfl ⟨rfl, K3.bel _ _ (by omega) LL⟩
      · have h0' : (v == 0) = false := by simpa using h0
        have HF : Hid (toldTo l (k + 1) = true) := show _ = _ by simp [toldTo, HV.out, h0, hal.out]
        clear h0
        go_wp2_with (first
          | (go_at_call 68; refine hc.mono ?_; clear hc; rintro e w2 ⟨rfl, L2⟩; have T2 := T1.below L2; have R2 := R1.below L2; have B2 := B1.below L2; have LL := bel_trans hB L2; have ct := T2.cell k; rw [four_at _ k hlt] at ct; have cf := T2.free k; have T3 := T2.setCell k (.int .i64 v); rw [four_set _ k hlt] at T3))
        go_roundw
        case rel =>
          refine ⟨k + 1, by omega, by go_num, HF, B2.setCell_other _ _ (by show w.heap.size ≠ w.heap.size + 1 + 1; omega), R2.setCell_other _ _ (by show w.heap.size + 1 ≠ w.heap.size + 1 + 1; omega), ?_, LL.setCell (by show w.heap.size ≤ w.heap.size + 1 + 1; omega) _⟩
          have HT : four (fun h => if h = k then v else if h < k then takeV l h else 0) = four (fun h => if h < k + 1 then takeV l h else 0) := four_congr (fun h hh => by
            by_cases c : h = k
            · rw [if_pos c, if_pos (by omega), c]; unfold takeV; rw [HF.out, if_pos rfl, HV.out]
            · rw [if_neg c]
              by_cases c2 : h < k
              · rw [if_pos c2, if_pos (by omega)]
              · rw [if_neg c2, if_neg (by omega)])
          rw [HT] at T3
          exact T3
        case measure => simp [intOf]; omega
    · have HT : four (fun h => if h < k then takeV l h else 0) = four (takeV l) := four_congr (fun h hh => by rw [if_pos (by omega)])
      rw [HT] at T1
      clear HT
      go_wp2_with (first
        | (refine wpList_load_part (by rfl) 31 _ rfl (w.heap.size + 1 + 1) 0 rfl (four (takeV l)) _ T1.range Tryz.underlying31 rfl hi4 ?_)
        | (refine wpList_store_blk rfl 31 _ _ rfl (w.heap.size + 1) (four fun _ => 0) (four (takeV l)) 31 rfl rfl R1 rfl hi4 ho ?_; rintro w3 B3 K3))
      exact bodyPost_ret (result_four rfl _ _ (w.heap.size + 1) _ rfl B3) rfl ⟨rfl, K3.bel _ _ (by omega) hB⟩
end Go.Proofs.YtmmgaonlmpajbacGreat
