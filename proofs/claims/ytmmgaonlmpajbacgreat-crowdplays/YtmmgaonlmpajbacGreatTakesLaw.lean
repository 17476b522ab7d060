/-
  The document's TakenOf, and the statement CrowdTakes.
-/
import Derived.Test.YtmmgaonlmpajbacGreatCAlive
namespace Go.Proofs.YtmmgaonlmpajbacGreat
open Go.RowKit

/-- What is found among the pairs (i, k), k below i, that have been looked at: of nodes below i all, of node i those below k. -/
def Looked (i k x y : Nat) : Prop := y < x ∧ (x < i ∨ (x = i ∧ y < k))
/-- The least value that a pair tells; 0: none does. -/
structure LeastOf (f : Nat → Int) (i k : Nat) (m : Int) : Prop where
  bd : 0 ≤ m ∧ m ≤ 9
  some : m ≠ 0 → ∃ x y, Looked i k x y ∧ x < 4 ∧ f x = m ∧ f y = m
  least : ∀ x y, Looked i k x y → x < 4 → f x = f y → 1 ≤ f x → f x ≤ 9 → m ≠ 0 ∧ m ≤ f x

theorem two_of_pair {f : Nat → Int} {x y : Nat} (hx : x < 4) (hy : y < x) {v : Int} (h1 : f x = v) (h2 : f y = v) : 2 ≤ tellers f v 4 := by
  have key : ∀ n, n ≤ 4 → (if y < n then 1 else 0) + (if x < n then 1 else 0) ≤ tellers f v n := by
    intro n
    induction n with
    | zero => intro _; simp [tellers]
    | succ n ih =>
      intro hn
      have := ih (by omega)
      simp only [tellers]
      by_cases c1 : n = x
      · subst c1
        rw [if_pos h1]
        rw [if_pos (by omega), if_neg (by omega)] at this
        rw [if_pos (by omega), if_pos (by omega)]; omega
      · by_cases c2 : n = y
        · subst c2
          rw [if_pos h2]
          rw [if_neg (by omega), if_neg (by omega)] at this
          rw [if_pos (by omega), if_neg (by omega)]; omega
        · have e1 : (if y < n + 1 then (1 : Int) else 0) = if y < n then 1 else 0 := by
            by_cases c : y < n
            · rw [if_pos c, if_pos (by omega)]
            · rw [if_neg c, if_neg (by omega)]
          have e2 : (if x < n + 1 then (1 : Int) else 0) = if x < n then 1 else 0 := by
            by_cases c : x < n
            · rw [if_pos c, if_pos (by omega)]
            · rw [if_neg c, if_neg (by omega)]
          rw [e1, e2]
          split <;> omega
  have := key 4 (Nat.le_refl _)
  rw [if_pos (by omega), if_pos (by omega)] at this
  omega
theorem pair_of_two {f : Nat → Int} {v : Int} (h : 2 ≤ tellers f v 4) : ∃ x y, y < x ∧ x < 4 ∧ f x = v ∧ f y = v := by
  simp only [tellers] at h
  by_cases c0 : f 0 = v
  · by_cases c1 : f 1 = v
    · exact ⟨1, 0, by omega, by omega, c1, c0⟩
    · by_cases c2 : f 2 = v
      · exact ⟨2, 0, by omega, by omega, c2, c0⟩
      · by_cases c3 : f 3 = v
        · exact ⟨3, 0, by omega, by omega, c3, c0⟩
        · rw [if_pos c0, if_neg c1, if_neg c2, if_neg c3] at h; omega
  · by_cases c1 : f 1 = v
    · by_cases c2 : f 2 = v
      · exact ⟨2, 1, by omega, by omega, c2, c1⟩
      · by_cases c3 : f 3 = v
        · exact ⟨3, 1, by omega, by omega, c3, c1⟩
        · rw [if_neg c0, if_pos c1, if_neg c2, if_neg c3] at h; omega
    · by_cases c2 : f 2 = v
      · by_cases c3 : f 3 = v
        · exact ⟨3, 2, by omega, by omega, c3, c2⟩
        · rw [if_neg c0, if_neg c1, if_pos c2, if_neg c3] at h; omega
      · by_cases c3 : f 3 = v
        · rw [if_neg c0, if_neg c1, if_neg c2, if_pos c3] at h; omega
        · rw [if_neg c0, if_neg c1, if_neg c2, if_neg c3] at h; omega
theorem least_told {f : Nat → Int} {m : Int} (h : LeastOf f 4 0 m) : m = toldV f := by
  have hno : ∀ j : Nat, 1 ≤ j → j ≤ 9 → 2 ≤ tellers f j 4 → m ≠ 0 ∧ m ≤ j := fun j h1 h9 h2 => by
    obtain ⟨x, y, a, b, c, d⟩ := pair_of_two h2
    have := h.least x y ⟨a, Or.inl b⟩ b (c.trans d.symm) (by omega) (by omega)
    omega
  by_cases hm : m = 0
  · rw [told_none (fun j h1 h2 => ?_)]
    · exact hm
    · by_cases c : 2 ≤ tellers f j 4
      · exact absurd hm (hno j h1 (by omega) c).1
      · omega
  · obtain ⟨x, y, a, b, c, d⟩ := h.some hm
    have hb := h.bd
    have e : ((m.toNat : Nat) : Int) = m := by omega
    have ht := two_of_pair b a.1 c d
    rw [told_some (v := m.toNat) (by omega) (by omega) (by rw [e]; exact ht) (fun j h1 h2 => ?_)]
    · exact e.symm
    · by_cases c : 2 ≤ tellers f j 4
      · have := (hno j h1 (by omega) c).2; omega
      · omega
theorem least_start (f : Nat → Int) : LeastOf f 0 0 0 := ⟨by omega, fun h => absurd rfl h, fun x y h _ => by have := h.2; omega⟩
theorem LeastOf.row {f : Nat → Int} {i : Nat} {m : Int} (h : LeastOf f i i m) : LeastOf f (i + 1) 0 m := by
  refine ⟨h.bd, fun hm => ?_, fun x y hl => h.least x y ⟨hl.1, by have := hl.2; have := hl.1; omega⟩⟩
  obtain ⟨x, y, a, b⟩ := h.some hm
  exact ⟨x, y, ⟨a.1, by have := a.2; omega⟩, b⟩
theorem LeastOf.skip {f : Nat → Int} {i k : Nat} {m : Int} (h : LeastOf f i k m) (hk : k < i) (hno : ¬ (f i = f k ∧ 1 ≤ f i ∧ f i ≤ 9 ∧ (m = 0 ∨ f i < m))) : LeastOf f i (k + 1) m := by
  refine ⟨h.bd, fun hm => ?_, fun x y hl hx he h1 h9 => ?_⟩
  · obtain ⟨x, y, a, b⟩ := h.some hm
    exact ⟨x, y, ⟨a.1, by have := a.2; omega⟩, b⟩
  · by_cases c : x = i ∧ y = k
    · obtain ⟨rfl, rfl⟩ := c
      have hb := h.bd
      by_cases hm : m = 0
      · exact absurd ⟨he, h1, h9, Or.inl hm⟩ hno
      · refine ⟨hm, ?_⟩
        by_cases hle : m ≤ f x
        · exact hle
        · exact absurd ⟨he, h1, h9, Or.inr (by omega)⟩ hno
    · exact h.least x y ⟨hl.1, by have := hl.2; omega⟩ hx he h1 h9
theorem LeastOf.take {f : Nat → Int} {i k : Nat} {m : Int} (h : LeastOf f i k m) (hk : k < i) (hi : i < 4) (he : f i = f k) (h1 : 1 ≤ f i) (h9 : f i ≤ 9) (hm : m = 0 ∨ f i < m) : LeastOf f i (k + 1) (f i) := by
  refine ⟨by omega, fun _ => ⟨i, k, ⟨hk, Or.inr ⟨rfl, by omega⟩⟩, hi, rfl, he.symm⟩, fun x y hl hx hxy hx1 hx9 => ?_⟩
  refine ⟨by omega, ?_⟩
  by_cases c : x = i ∧ y = k
  · rw [c.1]; exact Int.le_refl _
  · have := h.least x y ⟨hl.1, by have := hl.2; omega⟩ hx hxy hx1 hx9
    omega

set_option maxRecDepth 100000 in
set_option maxHeartbeats 8000000 in
theorem takenOf_any (l : Nat → Nat → Int) (w : World) :
    Calls Tryz.prog 29 #[.agg (lcells l)] w fun e w' => e = .returned (.agg (four (takeV l))) ∧ Below w.heap.size w w' := by
  have hi4 : (Tryz.prog.info? 31).map (·.size) = some (four (takeV l)).size := by show _ = some 4; kernel_rfl
  have ho := four_one (takeV l)
  have B0 : Blk (((w.alloc (.cells (lcells l) 80)).alloc (.cells #[.int .i64 0, .int .i64 0, .int .i64 0, .int .i64 0] 31)).alloc (.cells #[.int .i64 0, .int .i64 0, .int .i64 0, .int .i64 0] 31)) w.heap.size (lcells l) 80 := ((Blk.new w _ _).alloc _).alloc _
  have R0 : Blk (((w.alloc (.cells (lcells l) 80)).alloc (.cells #[.int .i64 0, .int .i64 0, .int .i64 0, .int .i64 0] 31)).alloc (.cells #[.int .i64 0, .int .i64 0, .int .i64 0, .int .i64 0] 31)) (w.heap.size + 1) (four fun _ => 0) 31 := (Blk.new1 w _ _ _).alloc _
  have T0 : Blk (((w.alloc (.cells (lcells l) 80)).alloc (.cells #[.int .i64 0, .int .i64 0, .int .i64 0, .int .i64 0] 31)).alloc (.cells #[.int .i64 0, .int .i64 0, .int .i64 0, .int .i64 0] 31)) (w.heap.size + 1 + 1) (four fun _ => 0) 31 := Blk.new2 w _ _ _ _
  have L0 : Below w.heap.size w (((w.alloc (.cells (lcells l) 80)).alloc (.cells #[.int .i64 0, .int .i64 0, .int .i64 0, .int .i64 0] 31)).alloc (.cells #[.int .i64 0, .int .i64 0, .int .i64 0, .int .i64 0] 31)) := by go_grown
  go_enter Tryz.func29, Tryz.ntmps29
  go_wp2
  generalize (((w.alloc (.cells (lcells l) 80)).alloc (.cells #[.int .i64 0, .int .i64 0, .int .i64 0, .int .i64 0] 31)).alloc (.cells #[.int .i64 0, .int .i64 0, .int .i64 0, .int .i64 0] 31)) = w0 at B0 R0 T0 L0 ⊢
  go_loopw [8] (fun i W => ∃ h : Nat, h ≤ 4 ∧ i = .int .i64 (h : Int) ∧ Hid (toldTo l h = true) ∧ Blk W w.heap.size (lcells l) 80 ∧ Blk W (w.heap.size + 1) (four fun _ => 0) 31 ∧ Blk W (w.heap.size + 1 + 1) (four fun h' => if h' < h then takeV l h' else 0) 31 ∧ Below w.heap.size w W) (fun i _ => 4 - (intOf i).toNat)
  case atStart => exact ⟨0, by omega, rfl, rfl, B0, R0, T0, L0⟩
  case round =>
    clear B0 R0 T0 L0
    obtain ⟨h, hh, rfl, hal, B1, R1, T1, hB1⟩ := hrel
    by_cases hlt : h < 4
    · have hltI : (h : Int) < 4 := by omega
      have e1 : (four fun h' => if h' < h then takeV l h' else 0) = four (fun h' => if h' = h then 0 else if h' < h then takeV l h' else 0) := four_congr (fun x hx => by
        by_cases c : x = h
        · rw [if_pos c, if_neg (by omega)]
        · rw [if_neg c])
      rw [e1] at T1
      clear e1
      go_wp2
      go_loopw [11] (fun j W => ∃ i : Nat, i ≤ 4 ∧ j = .int .i64 (i : Int) ∧ ∃ m : Int, LeastOf (fun i => l i h) i 0 m ∧ Blk W w.heap.size (lcells l) 80 ∧ Blk W (w.heap.size + 1) (four fun _ => 0) 31 ∧ Blk W (w.heap.size + 1 + 1) (four (fun h' => if h' = h then m else if h' < h then takeV l h' else 0)) 31 ∧ Below w.heap.size w W) (fun j _ => 4 - (intOf j).toNat)
      case atStart => exact ⟨0, by omega, rfl, 0, least_start _, B1, R1, T1, hB1⟩
      case round =>
        clear B1 R1 T1 hB1
        obtain ⟨i, hi, rfl, m, hL1, B2, R2, T2, hB2⟩ := hrel
        by_cases hi4' : i < 4
        · have hiI : (i : Int) < 4 := by omega
          go_wp2
          go_loopw [15] (fun j W => ∃ k : Nat, k ≤ i ∧ j = .int .i64 (k : Int) ∧ ∃ m : Int, LeastOf (fun i => l i h) i k m ∧ Blk W w.heap.size (lcells l) 80 ∧ Blk W (w.heap.size + 1) (four fun _ => 0) 31 ∧ Blk W (w.heap.size + 1 + 1) (four (fun h' => if h' = h then m else if h' < h then takeV l h' else 0)) 31 ∧ Below w.heap.size w W) (fun j _ => i - (intOf j).toNat)
          case atStart => exact ⟨0, by omega, rfl, m, hL1, B2, R2, T2, hB2⟩
          case round =>
            clear hL1 B2 R2 T2 hB2
            obtain ⟨k, hk, rfl, m, hL, B3, R3, T3, hB⟩ := hrel
            by_cases hki : k < i
            · have hkI : (k : Int) < (i : Int) := by omega
              have ci := B3.cell (i * 4 + h)
              rw [lcells_at l i h hi4' hlt] at ci
              have ck := B3.cell (k * 4 + h)
              rw [lcells_at l k h (by omega) hlt] at ck
              have cm := T3.cell h
              rw [four_at _ h hlt] at cm
              have fm := T3.free h
              simp only [if_true] at cm
              have T4 := T3.setCell h (.int .i64 (l i h))
              rw [four_set _ h hlt] at T4
              have e4 : (four fun h' => if h' = h then l i h else if h' = h then m else if h' < h then takeV l h' else 0) = four fun h' => if h' = h then l i h else if h' < h then takeV l h' else 0 := four_congr (fun x hx => by
                by_cases c : x = h
                · rw [if_pos c, if_pos c]
                · rw [if_neg c, if_neg c, if_neg c])
              rw [e4] at T4
              clear e4
              have HS : Hid (¬ ((fun i => l i h) i = (fun i => l i h) k ∧ 1 ≤ l i h ∧ l i h ≤ 9 ∧ (m = 0 ∨ l i h < m)) → LeastOf (fun i => l i h) i (k + 1) m) := fun hno => hL.skip hki hno
              have HT : Hid ((fun i => l i h) i = (fun i => l i h) k → 1 ≤ l i h → l i h ≤ 9 → (m = 0 ∨ l i h < m) → LeastOf (fun i => l i h) i (k + 1) (l i h)) := fun a b c d => hL.take hki hi4' a b c d
              clear hL
              cases hw : win (l i h) 1 9
              · go_wp2_with (first | (go_at_call 15; refine (rwithin_any _ _ _ _).mono ?_; rw [hw]; rintro e w' ⟨rfl, hw'⟩; obtain rfl := hw'.symm))
                go_roundw
                case measure => simp [intOf]; omega
                case rel => exact ⟨k + 1, by omega, by go_num, m, HS.out (fun hh => by have := win_iff.2 ⟨hh.2.1, hh.2.2.1⟩; rw [hw] at this; cases this), B3, R3, T3, hB⟩
              · have hw0 := win_iff.1 hw
                by_cases he : l k h = l i h
                · have he' : (l k h == l i h) = true := by simpa using he
                  have HE : Hid (l i h = l k h) := he.symm
                  clear he
                  by_cases hm : m = 0
                  · have hm' : (m == 0) = true := by simpa using hm
                    have HM : Hid (m = 0 ∨ l i h < m) := Or.inl hm
                    clear hm
                    go_wp2_with (first | (go_at_call 15; refine (rwithin_any _ _ _ _).mono ?_; rw [hw]; rintro e w' ⟨rfl, hw'⟩; obtain rfl := hw'.symm))
                    go_roundw
                    case measure => simp [intOf]; omega
                    case rel => exact ⟨k + 1, by omega, by go_num, l i h, HT.out HE.out hw0.1 hw0.2 HM.out, B3.setCell_other _ _ (by show w.heap.size ≠ w.heap.size + 1 + 1; omega), R3.setCell_other _ _ (by show w.heap.size + 1 ≠ w.heap.size + 1 + 1; omega), T4, hB.setCell (by show w.heap.size ≤ w.heap.size + 1 + 1; omega) _⟩
                  · have hm' : (m == 0) = false := by simpa using hm
                    have HM0 : Hid (¬ m = 0) := hm
                    clear hm
                    by_cases hv : l i h < m
                    · have HM : Hid (m = 0 ∨ l i h < m) := Or.inr hv
                      go_wp2_with (first | (go_at_call 15; refine (rwithin_any _ _ _ _).mono ?_; rw [hw]; rintro e w' ⟨rfl, hw'⟩; obtain rfl := hw'.symm))
                      go_roundw
                      case measure => simp [intOf]; omega
                      case rel => exact ⟨k + 1, by omega, by go_num, l i h, HT.out HE.out hw0.1 hw0.2 HM.out, B3.setCell_other _ _ (by show w.heap.size ≠ w.heap.size + 1 + 1; omega), R3.setCell_other _ _ (by show w.heap.size + 1 ≠ w.heap.size + 1 + 1; omega), T4, hB.setCell (by show w.heap.size ≤ w.heap.size + 1 + 1; omega) _⟩
                    · go_wp2_with (first | (go_at_call 15; refine (rwithin_any _ _ _ _).mono ?_; rw [hw]; rintro e w' ⟨rfl, hw'⟩; obtain rfl := hw'.symm))
                      go_roundw
                      case measure => simp [intOf]; omega
                      case rel => exact ⟨k + 1, by omega, by go_num, m, HS.out (fun hh => hh.2.2.2.elim HM0.out (by omega)), B3, R3, T3, hB⟩
                · have he' : (l k h == l i h) = false := by simpa using he
                  have HE : Hid (¬ l k h = l i h) := he
                  clear he
                  go_wp2_with (first | (go_at_call 15; refine (rwithin_any _ _ _ _).mono ?_; rw [hw]; rintro e w' ⟨rfl, hw'⟩; obtain rfl := hw'.symm))
                  go_roundw
                  case measure => simp [intOf]; omega
                  case rel => exact ⟨k + 1, by omega, by go_num, m, HS.out (fun hh => HE.out hh.1.symm), B3, R3, T3, hB⟩
            · obtain rfl : k = i := by omega
              go_wp2
              go_roundw
              case rel => exact ⟨k + 1, by omega, by go_num, m, hL.row, B3, R3, T3, hB⟩
              case measure => simp [intOf]; omega
        · obtain rfl : i = 4 := by omega
          have hm := least_told hL1
          have cm := T2.cell h
          rw [four_at _ h hlt] at cm
          simp only [if_true] at cm
          by_cases h0 : m = 0
          · have h0' : (m == 0) = true := by simpa using h0
            have HF : Hid (toldTo l (h + 1) = false) := show _ = _ by simp [toldTo, ← hm, h0]
            have HT : four (fun h' => if h' = h then m else if h' < h then takeV l h' else 0) = four (takeV l) := four_congr (fun x hx => by
              by_cases c : x < h
              · rw [if_neg (by omega), if_pos c]
              · have e0 : takeV l x = 0 := by unfold takeV; rw [toldTo_false HF.out (by omega)]; rfl
                rw [e0]
                by_cases c2 : x = h
                · rw [if_pos c2]; exact h0
                · rw [if_neg c2, if_neg c])
            rw [HT] at T2
            clear HT h0 hm
            go_wp2_with (first
              | (refine wpList_load_part (by rfl) 31 _ rfl (w.heap.size + 1 + 1) 0 rfl (four (takeV l)) _ T2.range Tryz.underlying31 rfl hi4 ?_)
              | (refine wpList_store_blk rfl 31 _ _ rfl (w.heap.size + 1) (four fun _ => 0) (four (takeV l)) 31 rfl rfl R2 rfl hi4 ho ?_; rintro w3 B3 K3))
            exact bodyPost_ret (result_four rfl _ _ (w.heap.size + 1) _ rfl B3) rfl ⟨rfl, K3.bel _ _ (by omega) hB2⟩
          · have h0' : (m == 0) = false := by simpa using h0
            have HF : Hid (toldTo l (h + 1) = true) := show _ = _ by simp [toldTo, ← hm, h0, hal.out]
            have HT : Hid (four (fun h' => if h' = h then m else if h' < h then takeV l h' else 0) = four fun h' => if h' < h + 1 then takeV l h' else 0) := show _ = _ from four_congr (fun x hx => by
              by_cases c : x = h
              · rw [if_pos c, if_pos (by omega), c]; unfold takeV; rw [HF.out, if_pos rfl, hm]
              · rw [if_neg c]
                by_cases c2 : x < h
                · rw [if_pos c2, if_pos (by omega)]
                · rw [if_neg c2, if_neg (by omega)])
            clear h0 hm
            go_wp2
            go_roundw
            case rel => exact ⟨h + 1, by omega, by go_num, HF, B2, R2, by rw [← HT.out]; exact T2, hB2⟩
            case measure => simp [intOf]; omega
    · have HT : (four fun h' => if h' < h then takeV l h' else 0) = four (takeV l) := four_congr (fun x hx => by rw [if_pos (by omega)])
      rw [HT] at T1
      clear HT
      go_wp2_with (first
        | (refine wpList_load_part (by rfl) 31 _ rfl (w.heap.size + 1 + 1) 0 rfl (four (takeV l)) _ T1.range Tryz.underlying31 rfl hi4 ?_)
        | (refine wpList_store_blk rfl 31 _ _ rfl (w.heap.size + 1) (four fun _ => 0) (four (takeV l)) 31 rfl rfl R1 rfl hi4 ho ?_; rintro w3 B3 K3))
      exact bodyPost_ret (result_four rfl _ _ (w.heap.size + 1) _ rfl B3) rfl ⟨rfl, K3.bel _ _ (by omega) hB1⟩
end Go.Proofs.YtmmgaonlmpajbacGreat
