/-
  The statement CrowdTrue.
-/
import Derived.Test.YtmmgaonlmpajbabClientsLaw
namespace Go.Proofs.Ytmmgaonlmpajbab
open Go.RowKit

def allF (all : Nat → Int) (h : Nat) : Int := if all h < 1 ∨ 9 < all h then 1 else all h
def kkV (x : Int) : Int := (x.tmod 5 + 4 + 1).tmod 5
theorem kkV_bd (x : Int) : 0 ≤ kkV x ∧ kkV x ≤ 4 := by
  have h1 : x.tmod 5 < 5 := Int.tmod_lt_of_pos x (by omega)
  have h2 : -5 < x.tmod 5 := by
    have := Int.lt_tmod_of_pos x (show (0 : Int) < 5 by omega)
    omega
  have h3 : kkV x < 5 := Int.tmod_lt_of_pos _ (by omega)
  have h4 : 0 ≤ kkV x := Int.tmod_nonneg _ (by omega)
  omega
/-- What the nodes tell. -/
def rowV (all n tell : Nat → Int) (liar : Int) (i h : Nat) : Int := if (i : Int) = liar then tell h else if (h : Int) < kkV (n i) then allF all h else 0
/-- The longest beginning that one that is true tells. -/
def longTo (n : Nat → Int) (liar : Int) : Nat → Int
  | 0 => 0
  | i + 1 => if (i : Int) = liar then longTo n liar i else if kkV (n i) > longTo n liar i then kkV (n i) else longTo n liar i
theorem longTo_bd (n : Nat → Int) (liar : Int) : ∀ i, 0 ≤ longTo n liar i ∧ longTo n liar i ≤ 4
  | 0 => by unfold longTo; omega
  | i + 1 => by
    have := longTo_bd n liar i
    have := kkV_bd (n i)
    unfold longTo
    split
    · omega
    · split <;> omega
theorem longTo_ge (n : Nat → Int) (liar : Int) (z : Nat) (hz : (z : Int) ≠ liar) : ∀ m, z < m → kkV (n z) ≤ longTo n liar m
  | 0, h => by omega
  | m + 1, h => by
    unfold longTo
    by_cases e : z = m
    · subst e
      rw [if_neg hz]
      split <;> omega
    · have ih := longTo_ge n liar z hz m (by omega)
      split
      · exact ih
      · split <;> omega
theorem true_take {all n tell : Nat → Int} {liar : Int} {h : Nat} (hne : takeV (rowV all n tell liar) h ≠ 0) : takeV (rowV all n tell liar) h = allF all h ∧ (h : Int) < longTo n liar 4 := by
  obtain ⟨x, y, h1, h2, h3, h4⟩ := takeV_two hne
  have key : ∀ z : Nat, z < 4 → (z : Int) ≠ liar → rowV all n tell liar z h = takeV (rowV all n tell liar) h → takeV (rowV all n tell liar) h = allF all h ∧ (h : Int) < longTo n liar 4 := fun z hz hl e => by
    rw [← e] at hne ⊢
    unfold rowV at hne ⊢
    rw [if_neg hl] at hne ⊢
    by_cases c : (h : Int) < kkV (n z)
    · rw [if_pos c]
      have := longTo_ge n liar z hl 4 hz
      exact ⟨rfl, by omega⟩
    · rw [if_neg c] at hne; exact absurd rfl hne
  by_cases c1 : (x : Int) = liar
  · exact key y (by omega) (by omega) h4
  · exact key x h2 c1 h3
/-- Has the list ended ahead of a height? -/
def endB (t : Nat → Int) : Nat → Bool
  | 0 => false
  | h + 1 => endB t h || (t h == 0)
theorem endB_take {l : Nat → Nat → Int} : ∀ {h : Nat}, endB (takeV l) h = true → toldTo l h = false
  | 0, e => by cases e
  | h + 1, e => by
    unfold endB at e
    rw [Bool.or_eq_true] at e
    rcases e with e | e
    · exact toldTo_false (endB_take e) (by omega)
    · have e0 : takeV l h = 0 := by simpa using e
      cases c : toldTo l (h + 1)
      · rfl
      · unfold takeV at e0
        rw [if_pos c] at e0
        unfold toldTo at c
        rw [e0] at c
        simp at c
theorem endB_not {l : Nat → Nat → Int} {h : Nat} (hne : takeV l h ≠ 0) : endB (takeV l) h = false := by
  cases c : endB (takeV l) h
  · rfl
  · have h1 := toldTo_false (endB_take c) (show h ≤ h + 1 by omega)
    unfold takeV at hne
    rw [h1] at hne
    exact absurd rfl hne
theorem lcells_set1 (l : Nat → Nat → Int) (i h : Nat) (hi : i < 4) (hh : h < 4) (v : Int) : (lcells l).setIfInBounds (i * 4 + h) (.int .i64 v) = lcells fun k g => if k = i ∧ g = h then v else l k g := by
  apply Array.ext_getElem?
  intro j
  rw [Array.getElem?_setIfInBounds, lcells_size]
  by_cases hj : j < 16
  · have e : j = j / 4 * 4 + j % 4 := by omega
    by_cases c : i * 4 + h = j
    · rw [if_pos c, if_pos (by omega), e, lcells_at _ _ _ (by omega) (by omega), if_pos (by omega)]
    · rw [if_neg c, e, lcells_at _ _ _ (by omega) (by omega), lcells_at _ _ _ (by omega) (by omega), if_neg (by omega)]
  · rw [if_neg (by omega), Array.getElem?_eq_none (by rw [lcells_size]; omega), Array.getElem?_eq_none (by rw [lcells_size]; omega)]

abbrev z16 : Array Value := #[.int .i64 0, .int .i64 0, .int .i64 0, .int .i64 0, .int .i64 0, .int .i64 0, .int .i64 0, .int .i64 0, .int .i64 0, .int .i64 0, .int .i64 0, .int .i64 0, .int .i64 0, .int .i64 0, .int .i64 0, .int .i64 0]
/-- What lies there while the lists are laid. -/
structure Laid (w : World) (all n tell : Nat → Int) (l : Nat → Nat → Int) (W : World) : Prop where
  a : Blk W w.heap.size (four all) 26
  n : Blk W (w.heap.size + 1) (four n) 26
  t : Blk W (w.heap.size + 1 + 1) (four tell) 26
  l : Blk W (w.heap.size + 1 + 1 + 1) (lcells l) 45
  b : Below w.heap.size w W

theorem Laid.congr {w W : World} {all n tell : Nat → Int} {l m : Nat → Nat → Int} (D : Laid w all n tell l W) (h : ∀ i k, i < 4 → k < 4 → l i k = m i k) : Laid w all n tell m W := by
  refine ⟨D.a, D.n, D.t, ?_, D.b⟩
  rw [← lcells_congr h]; exact D.l
theorem Laid.drew {w W : World} {all n tell : Nat → Int} {l : Nat → Nat → Int} (D : Laid w all n tell l W) : Laid w all n tell l W.drew := ⟨D.a, D.n, D.t, D.l, below_drew' D.b⟩
theorem Laid.put {w W : World} {all n tell : Nat → Int} {l : Nat → Nat → Int} (D : Laid w all n tell l W) (i h : Nat) (hi : i < 4) (hh : h < 4) (v : Int) : Laid w all n tell (fun k g => if k = i ∧ g = h then v else l k g) (W.setCell ⟨w.heap.size + 1 + 1 + 1, i * 4 + h, none⟩ (.int .i64 v)) := by
  refine ⟨D.a.setCell_other _ _ (by show w.heap.size ≠ w.heap.size + 1 + 1 + 1; omega), D.n.setCell_other _ _ (by show w.heap.size + 1 ≠ w.heap.size + 1 + 1 + 1; omega), D.t.setCell_other _ _ (by show w.heap.size + 1 + 1 ≠ w.heap.size + 1 + 1 + 1; omega), ?_, D.b.setCell (by show w.heap.size ≤ w.heap.size + 1 + 1 + 1; omega) _⟩
  have := D.l.setCell (i * 4 + h) (.int .i64 v)
  rwa [lcells_set1 l i h hi hh v] at this

set_option maxRecDepth 100000 in
set_option maxHeartbeats 8000000 in
theorem crowdTrue_any (all n : Nat → Int) (liar : Int) (tell : Nat → Int) (w : World) :
    Calls Try.prog 6 #[.agg (four all), .agg (four n), .int .i64 liar, .agg (four tell)] w fun e w' => e = .returned (.bool true) ∧ Below w.heap.size w w' := by
  have hi4 : ∀ f : Nat → Int, (Try.prog.info? 26).map (·.size) = some (four f).size := fun f => by show _ = some 4; kernel_rfl
  have hi16 : ∀ l : Nat → Nat → Int, (Try.prog.info? 45).map (·.size) = some (lcells l).size := fun l => by rw [lcells_size]; kernel_rfl
  have hz : (lcells fun _ _ => 0) = z16 := by kernel_rfl
  have D0 : Laid w all n tell (fun _ _ => 0) ((((w.alloc (.cells (four all) 26)).alloc (.cells (four n) 26)).alloc (.cells (four tell) 26)).alloc (.cells z16 45)) := by
    refine ⟨(((Blk.new w _ _).alloc _).alloc _).alloc _, ((Blk.new1 w _ _ _).alloc _).alloc _, (Blk.new2 w _ _ _ _).alloc _, ?_, by go_grown⟩
    rw [hz]
    have := Blk.new (((w.alloc (.cells (four all) 26)).alloc (.cells (four n) 26)).alloc (.cells (four tell) 26)) z16 45
    rwa [World.size_alloc, World.size_alloc, World.size_alloc] at this
  clear hz
  go_enter Try.func6, Try.ntmps6
  go_upto_region 2 with fail
  generalize ((((w.alloc (.cells (four all) 26)).alloc (.cells (four n) 26)).alloc (.cells (four tell) 26)).alloc (.cells z16 45)) = w0 at D0 ⊢
  go_wp2_with (first
    | (refine wpList_load_part (by rfl) 26 _ rfl w.heap.size 0 rfl (four all) _ D0.a.range Try.underlying26 rfl (hi4 _) ?_))
  go_loopw [20] (fun j W => ∃ h : Nat, h ≤ 4 ∧ j = .int .i64 (h : Int) ∧ Laid w (fun g => if g < h then allF all g else all g) n tell (fun _ _ => 0) W) (fun j _ => 4 - (intOf j).toNat)
  case atStart => exact ⟨0, by omega, rfl, D0⟩
  case round =>
    clear D0
    obtain ⟨h, hh, rfl, D1⟩ := hrel
    by_cases hh4 : h < 4
    · have hhI : (h : Int) < 4 := by omega
      have hix := index_four all h hh4
      have HA : Hid ((all h < 1 ∨ 9 < all h → allF all h = 1) ∧ (¬ (all h < 1 ∨ 9 < all h) → allF all h = all h)) := ⟨fun c => if_pos c, fun c => if_neg c⟩
      have ct := D1.a.cell h
      rw [four_at _ h hh4] at ct
      have cf := D1.a.free h
      have A3 := D1.a.setCell h (.int .i64 1)
      rw [four_set _ h hh4] at A3
      have hbad : allF all h = 1 → Laid w (fun g => if g < h + 1 then allF all g else all g) n tell (fun _ _ => 0) (wr.setCell ⟨w.heap.size, h, none⟩ (.int .i64 1)) := fun e => by
        refine ⟨?_, D1.n.setCell_other _ _ (by show w.heap.size + 1 ≠ w.heap.size; omega), D1.t.setCell_other _ _ (by show w.heap.size + 1 + 1 ≠ w.heap.size; omega), D1.l.setCell_other _ _ (by show w.heap.size + 1 + 1 + 1 ≠ w.heap.size; omega), D1.b.setCell (Nat.le_refl _) _⟩
        rw [four_congr (g := fun g => if g < h + 1 then allF all g else all g) (fun g _ => by
          by_cases c : g = h
          · subst c; rw [if_pos rfl, if_pos (by omega), e]
          · rw [if_neg c]
            by_cases c2 : g < h
            · rw [if_pos c2, if_pos (by omega)]
            · rw [if_neg c2, if_neg (by omega)])] at A3
        exact A3
      have hgood : allF all h = all h → Laid w (fun g => if g < h + 1 then allF all g else all g) n tell (fun _ _ => 0) wr := fun e => by
        refine ⟨?_, D1.n, D1.t, D1.l, D1.b⟩
        have := D1.a
        rw [four_congr (g := fun g => if g < h + 1 then allF all g else all g) (fun g _ => by
          by_cases c : g = h
          · subst c; rw [if_neg (by omega), if_pos (by omega), e]
          · by_cases c2 : g < h
            · rw [if_pos c2, if_pos (by omega)]
            · rw [if_neg c2, if_neg (by omega)])] at this
        exact this
      have HB : Hid _ := hbad
      have HGo : Hid _ := hgood
      clear hbad hgood A3 D1
      by_cases c1 : all h < 1
      · have HA1 : Hid (allF all h = 1) := show _ = _ from HA.out.1 (Or.inl c1)
        generalize all h = v at hix c1 ct
        go_wp2
        go_roundw
        case rel => exact ⟨h + 1, by omega, by go_num, HB.out HA1.out⟩
        case measure => simp [intOf]; omega
      · by_cases c2 : 9 < all h
        · have HA1 : Hid (allF all h = 1) := show _ = _ from HA.out.1 (Or.inr c2)
          go_wp2
          go_roundw
          case rel => exact ⟨h + 1, by omega, by go_num, HB.out HA1.out⟩
          case measure => simp [intOf]; omega
        · have HA1 : Hid (allF all h = all h) := show _ = _ from HA.out.2 (fun c => by omega)
          go_wp2
          go_roundw
          case rel => exact ⟨h + 1, by omega, by go_num, HGo.out HA1.out⟩
          case measure => simp [intOf]; omega
    · have D2 : Laid w (allF all) n tell (fun _ _ => 0) wr := by
        refine ⟨?_, D1.n, D1.t, D1.l, D1.b⟩
        have := D1.a
        rw [four_congr (g := allF all) (fun g hg => by rw [if_pos (by omega)])] at this
        exact this
      clear D1
      go_wp2
      go_loopw [10, 33] (fun lo j W => ∃ i : Nat, i ≤ 4 ∧ j = .int .i64 (i : Int) ∧ lo = .int .i64 (longTo n liar i) ∧ Laid w (allF all) n tell (fun k g => if k < i then rowV all n tell liar k g else 0) W) (fun _ j _ => 4 - (intOf j).toNat)
      case atStart => exact ⟨0, by omega, rfl, rfl, D2⟩
      case round =>
        clear D2
        obtain ⟨i, hi, rfl, rfl, D3⟩ := hrel
        have hlb := longTo_bd n liar i
        by_cases hi4' : i < 4
        · have hiI : (i : Int) < 4 := by omega
          have cn := D3.n.cell i
          rw [four_at _ i hi4'] at cn
          have hkb := kkV_bd (n i)
          obtain ⟨kn, hkn⟩ : ∃ kn : Nat, kkV (n i) = (kn : Int) := ⟨(kkV (n i)).toNat, by omega⟩
          have hk4 : kn ≤ 4 := by omega
          have HRow : Hid (∀ g, rowV all n tell liar i g = if (i : Int) = liar then tell g else if (g : Int) < (kn : Int) then allF all g else 0) := fun g => by unfold rowV; rw [hkn]
          have HLong : Hid (longTo n liar (i + 1) = if (i : Int) = liar then longTo n liar i else if (kn : Int) > longTo n liar i then (kn : Int) else longTo n liar i) := by
            show longTo n liar (i + 1) = _
            rw [← hkn]; rfl
          have hk1 : ((n i).tmod 5 + 4 + 1).tmod 5 = (kn : Int) := hkn
          have t1 : (n i).tmod 5 < 5 := Int.tmod_lt_of_pos _ (by omega)
          have t2 : -5 < (n i).tmod 5 := by
            have := Int.lt_tmod_of_pos (n i) (show (0 : Int) < 5 by omega)
            omega
          clear hkn hkb
          generalize n i = x at cn hk1 t1 t2
          generalize longTo n liar i = lo at HLong hlb ⊢
          have hmax : ∀ ts t W, Sem.run Try.prog (Builtin.max_ ts t #[.int .i64 lo, .int .i64 (kn : Int)]) W = .ok (.int .i64 (if (kn : Int) > lo then (kn : Int) else lo)) W := fun ts t W => by rw [run_max_int2]
          obtain ⟨lo', hlo'⟩ : ∃ lo', (if (kn : Int) > lo then (kn : Int) else lo) = lo' := ⟨_, rfl⟩
          rw [hlo'] at hmax HLong
          clear hlo'
          have HMax : Hid _ := hmax
          clear hmax
          cases c1 : ((i : Int) == liar)
          · have c1' : ((i : Int) != liar) = true := by simp only [bne, c1]; rfl
            have hmax := HMax.out
            go_wp2
            clear hmax
            go_loopw [50] (fun jj W => ∃ j : Nat, j ≤ kn ∧ jj = .int .i64 (j : Int) ∧ Laid w (allF all) n tell (fun k g => if k < i then rowV all n tell liar k g else if k = i ∧ g < j then allF all g else 0) W) (fun jj _ => kn - (intOf jj).toNat)
            case atStart => exact ⟨0, by omega, rfl, D3.congr fun k g _ _ => by
              by_cases c : k < i
              · rw [if_pos c, if_pos c]
              · rw [if_neg c, if_neg c, if_neg (by omega)]⟩
            case round =>
              clear D3
              obtain ⟨j, hj, rfl, D4⟩ := hrel
              by_cases hjk : j < kn
              · have hjI : (j : Int) < (kn : Int) := by omega
                have hj4 : j < 4 := by omega
                have hj4I : (j : Int) < 4 := by omega
                have ca := D4.a.cell j
                rw [four_at _ j hj4] at ca
                have cl := D4.l.cell (i * 4 + j)
                rw [lcells_at _ i j hi4' hj4] at cl
                have cf := D4.l.free (i * 4 + j)
                have D5 := D4.put i j hi4' hj4 (allF all j)
                have HD5 : Hid (Laid w (allF all) n tell (fun k g => if k < i then rowV all n tell liar k g else if k = i ∧ g < j + 1 then allF all g else 0) (wr.setCell ⟨w.heap.size + 1 + 1 + 1, i * 4 + j, none⟩ (.int .i64 (allF all j)))) := D5.congr fun k g _ _ => by
                  by_cases c : k = i ∧ g = j
                  · rw [if_pos c, if_neg (by omega), if_pos (by omega), c.2]
                  · rw [if_neg c]
                    by_cases c2 : k < i
                    · rw [if_pos c2, if_pos c2]
                    · rw [if_neg c2, if_neg c2]
                      by_cases c3 : k = i ∧ g < j
                      · rw [if_pos c3, if_pos (by omega)]
                      · rw [if_neg c3, if_neg (by omega)]
                clear D5 D4
                generalize allF all j = v at ca HD5
                go_wp2
                go_region
                go_wp2
                go_roundw
                case rel => exact ⟨j + 1, by omega, by go_num, by first | exact HD5.out.drew | exact HD5.out⟩
                case measure => simp [intOf]; omega
              · have hjn : Hid (j = kn) := show j = kn by omega
                go_wp2
                go_roundw
                case rel =>
                  refine ⟨i + 1, by omega, by go_num, by rw [HLong.out, if_neg (by simpa using c1)], D4.congr fun k g _ _ => ?_⟩
                  by_cases c : k = i
                  · subst c
                    rw [if_neg (show ¬ k < k by omega), if_pos (show k < k + 1 by omega), HRow.out g, if_neg (show ¬ (k : Int) = liar by simpa using c1)]
                    by_cases c3 : g < j
                    · rw [if_pos ⟨rfl, c3⟩, if_pos (by have := hjn.out; omega)]
                    · rw [if_neg (fun hh => c3 hh.2), if_neg (by have := hjn.out; omega)]
                  · by_cases c2 : k < i
                    · rw [if_pos c2, if_pos (by omega)]
                    · rw [if_neg c2, if_neg (by omega), if_neg (by omega)]
                case measure => simp [intOf]; omega
          · have c1' : ((i : Int) != liar) = false := by simp only [bne, c1]; rfl
            go_wp2
            go_loopw [50] (fun jj W => ∃ j : Nat, j ≤ kn ∧ jj = .int .i64 (j : Int) ∧ Laid w (allF all) n tell (fun k g => if k < i then rowV all n tell liar k g else if k = i ∧ g < j then allF all g else 0) W) (fun jj _ => kn - (intOf jj).toNat)
            case atStart => exact ⟨0, by omega, rfl, D3.congr fun k g _ _ => by
              by_cases c : k < i
              · rw [if_pos c, if_pos c]
              · rw [if_neg c, if_neg c, if_neg (by omega)]⟩
            case round =>
              clear D3
              obtain ⟨j, hj, rfl, D4⟩ := hrel
              by_cases hjk : j < kn
              · have hjI : (j : Int) < (kn : Int) := by omega
                have hj4 : j < 4 := by omega
                have hj4I : (j : Int) < 4 := by omega
                have ca := D4.a.cell j
                rw [four_at _ j hj4] at ca
                have cl := D4.l.cell (i * 4 + j)
                rw [lcells_at _ i j hi4' hj4] at cl
                have cf := D4.l.free (i * 4 + j)
                have D5 := D4.put i j hi4' hj4 (allF all j)
                have HD5 : Hid (Laid w (allF all) n tell (fun k g => if k < i then rowV all n tell liar k g else if k = i ∧ g < j + 1 then allF all g else 0) (wr.setCell ⟨w.heap.size + 1 + 1 + 1, i * 4 + j, none⟩ (.int .i64 (allF all j)))) := D5.congr fun k g _ _ => by
                  by_cases c : k = i ∧ g = j
                  · rw [if_pos c, if_neg (by omega), if_pos (by omega), c.2]
                  · rw [if_neg c]
                    by_cases c2 : k < i
                    · rw [if_pos c2, if_pos c2]
                    · rw [if_neg c2, if_neg c2]
                      by_cases c3 : k = i ∧ g < j
                      · rw [if_pos c3, if_pos (by omega)]
                      · rw [if_neg c3, if_neg (by omega)]
                clear D5 D4
                generalize allF all j = v at ca HD5
                go_wp2
                go_region
                go_wp2
                go_roundw
                case rel => exact ⟨j + 1, by omega, by go_num, by first | exact HD5.out.drew | exact HD5.out⟩
                case measure => simp [intOf]; omega
              · have hjn : Hid (j = kn) := show j = kn by omega
                have D6 : Laid w (allF all) n tell (fun k g => if k < i then rowV all n tell liar k g else if k = i ∧ g < j then allF all g else 0) wr := D4
                go_wp2_with (first
                  | (refine wpList_load_part (by rfl) 26 _ rfl (w.heap.size + 1 + 1) 0 rfl (four tell) _ D6.t.range Try.underlying26 rfl (hi4 _) ?_)
                  | (refine wpList_store_row rfl 26 _ _ rfl (w.heap.size + 1 + 1 + 1) i _ tell 45 (by first | rfl | simp) rfl hi4' D6.l (hi4 _) ?_; rintro w7 I7 K7))
                go_roundw
                case rel =>
                  refine ⟨i + 1, by omega, by go_num, by rw [HLong.out, if_pos (by simpa using c1)], Laid.congr ⟨K7.blk _ _ _ (by omega) D6.a, K7.blk _ _ _ (by omega) D6.n, K7.blk _ _ _ (by omega) D6.t, I7, K7.bel _ _ (by omega) D6.b⟩ fun k g _ _ => ?_⟩
                  by_cases c : k = i
                  · subst c
                    rw [if_pos rfl, if_pos (show k < k + 1 by omega), HRow.out g, if_pos (show (k : Int) = liar by simpa using c1)]
                  · rw [if_neg c]
                    by_cases c2 : k < i
                    · rw [if_pos c2, if_pos (by omega)]
                    · rw [if_neg c2, if_neg (by omega), if_neg (by omega)]
                case measure => simp [intOf]; omega
        · have hi5 : i = 4 := by omega
          subst hi5
          have D4 : Laid w (allF all) n tell (rowV all n tell liar) wr := D3.congr fun k g hk _ => by rw [if_pos hk]
          have hcon := fun W => take_any (rowV all n tell liar) W
          have HT : Hid ((∀ h, takeV (rowV all n tell liar) h ≠ 0 → takeV (rowV all n tell liar) h = allF all h ∧ (h : Int) < longTo n liar 4 ∧ endB (takeV (rowV all n tell liar)) h = false)) := fun h hne => ⟨(true_take hne).1, (true_take hne).2, endB_not hne⟩
          clear D3
          generalize rowV all n tell liar = L at D4 hcon HT
          generalize takeV L = t at hcon HT
          generalize longTo n liar 4 = lo at HT hlb ⊢
          have ho := four_one t
          rename World => w3
          go_wp2_with (first
            | (refine wpList_load_part (by rfl) 45 _ rfl (w.heap.size + 1 + 1 + 1) 0 rfl (lcells L) _ D4.l.range Try.underlying45 rfl (hi16 _) ?_)
            | (go_at_call 18; refine (hcon _).mono ?_; rintro e w4 ⟨rfl, L4⟩; have Z4 : Blk (w4.alloc (.cells z4 26)) w4.heap.size z4 26 := Blk.new w4 _ _; have La : Below w4.heap.size w4 (w4.alloc (.cells z4 26)) := (by go_grown))
            | (refine wpList_store_blk rfl 26 _ _ rfl w4.heap.size z4 (four t) 26 rfl rfl Z4 rfl (hi4 _) ho ?_; rintro w5 B5 K5; have L5 := K5.bel _ _ (Nat.le_refl _) La))
          have A5 := (D4.a.below L4).below L5
          have LL := bel_trans (bel_trans D4.b L4) L5
          clear D4 L4 Z4 La K5 L5
          generalize w4.heap.size = p at B5 ⊢
          go_loopw [17, 70] (fun eb j W => ∃ h : Nat, h ≤ 4 ∧ j = .int .i64 (h : Int) ∧ eb = .bool (endB t h) ∧ Blk W w.heap.size (four (allF all)) 26 ∧ Blk W p (four t) 26 ∧ Below w.heap.size w W) (fun _ j _ => 4 - (intOf j).toNat)
          case atStart => exact ⟨0, by omega, rfl, rfl, A5, B5, LL⟩
          case round =>
            clear A5 B5 LL
            obtain ⟨h, hh, rfl, rfl, A6, B6, L6⟩ := hrel
            by_cases hh4 : h < 4
            · have hhI : (h : Int) < 4 := by omega
              have ct := B6.cell h
              rw [four_at _ h hh4] at ct
              have ca := A6.cell h
              rw [four_at _ h hh4] at ca
              have HE : Hid (endB t (h + 1) = (endB t h || (t h == 0))) := show _ = _ from rfl
              have hth := HT.out h
              generalize t h = v at ct HE hth
              have HR : Hid (∀ m, Blk (wr.drewN m) w.heap.size (four (allF all)) 26 ∧ Blk (wr.drewN m) p (four t) 26 ∧ Below w.heap.size w (wr.drewN m)) := fun m => ⟨A6.drewN m, B6.drewN m, below_drewN' L6 m⟩
              by_cases h0 : v = 0
              · have h0' : (v == 0) = true := by simpa using h0
                clear hth h0
                go_wp2
                go_roundw
                case rel => exact ⟨h + 1, by omega, by go_num, by rw [HE.out, h0', Bool.or_true], A6, B6, L6⟩
                case measure => simp [intOf]; omega
              · have h0' : (v == 0) = false := by simpa using h0
                obtain ⟨e1, e2, e3⟩ := hth h0
                rw [← e1] at ca
                have e4 : (v != v) = false := by simp
                have e5 : decide ((h : Int) ≥ lo) = false := decide_eq_false (by omega)
                have HE1 : Hid (endB t (h + 1) = false) := show _ = _ by rw [HE.out, e3, h0']; rfl
                rw [e3]
                clear e1 e3 hth h0 HE
                go_wp2
                go_quiet (fail)
                go_wp2
                go_roundw
                case rel => exact ⟨h + 1, by omega, by go_num, by rw [HE1.out], HR.out _⟩
                case measure => simp [intOf]; omega
            · go_wp2_with (first | (go_at_call 25; refine (kalive_any _).mono ?_; rintro e w8 ⟨rfl, L8⟩))
              go_ret
              exact ⟨rfl, bel_trans L6 L8⟩
end Go.Proofs.Ytmmgaonlmpajbab
