/-
  The statement NodeGood: its walk, a refused call and one that is answered.
-/
import Derived.Test.YtmmgaonlmpajbaaKAfter
import Derived.Test.YtmmgaonlmpajbaaNodeB
import Derived.Test.YtmmgaonlmpajbaaKQuiet
import Derived.Test.YtmmgaonlmpajbaaOwnW
import Derived.Test.YtmmgaonlmpajbaaLid
namespace Go.Proofs.Ytmmgaonlmpajbaa
open Go.RowKit

set_option maxRecDepth 100000 in
set_option maxHeartbeats 4000000 in
theorem kgood_code (n : NI) (l : List Int) (who kind value : Int) (v : Wd) (code : Int)
    (hcon : ∀ W, Ints W n.q l → Calls Try.prog 52 #[.agg n.cells, .int .i64 who, .int .i64 kind, .int .i64 value, .agg #[.int .i64 v.k, .int .i64 v.f, .int .i64 v.h, .int .i64 v.r, .int .i64 v.v, .int .i64 v.x]] W (Res W n l [] code)) (w : World) (hq : Ints w n.q l) (hl : l.length < 4611686018427387904) (hne : code ≠ 0) :
    Calls Try.prog 13 #[.agg n.cells, .int .i64 who, .int .i64 kind, .int .i64 value, .agg #[.int .i64 v.k, .int .i64 v.f, .int .i64 v.h, .int .i64 v.r, .int .i64 v.v, .int .i64 v.x]] w fun e w' => e = .returned (.bool true) ∧ Below w.heap.size w w' := by
  have hz := run_zeroN
  have hiN := infoN n
  have hi6 : (Try.prog.info? 23).map (·.size) = some (#[.int .i64 v.k, .int .i64 v.f, .int .i64 v.h, .int .i64 v.r, .int .i64 v.v, .int .i64 v.x] : Array Value).size := by show _ = some 6; kernel_rfl
  have B0 : Blk ((w.alloc (.cells n.cells 61)).alloc (.cells #[.int .i64 v.k, .int .i64 v.f, .int .i64 v.h, .int .i64 v.r, .int .i64 v.v, .int .i64 v.x] 23)) w.heap.size n.cells 61 := (Blk.new w _ _).alloc _
  have Bw : Blk ((w.alloc (.cells n.cells 61)).alloc (.cells #[.int .i64 v.k, .int .i64 v.f, .int .i64 v.h, .int .i64 v.r, .int .i64 v.v, .int .i64 v.x] 23)) (w.heap.size + 1) #[.int .i64 v.k, .int .i64 v.f, .int .i64 v.h, .int .i64 v.r, .int .i64 v.v, .int .i64 v.x] 23 := Blk.new1 w _ _ _
  have L0 : Below w.heap.size w ((w.alloc (.cells n.cells 61)).alloc (.cells #[.int .i64 v.k, .int .i64 v.f, .int .i64 v.h, .int .i64 v.r, .int .i64 v.v, .int .i64 v.x] 23)) := by go_grown
  have hsz : ((w.alloc (.cells n.cells 61)).alloc (.cells #[.int .i64 v.k, .int .i64 v.f, .int .i64 v.h, .int .i64 v.r, .int .i64 v.v, .int .i64 v.x] 23)).heap.size = w.heap.size + 2 := by simp
  have hc2 : (code != 0) = true := by simpa using hne
  clear hne
  go_enter Try.func13, Try.ntmps13
  go_upto_region 1 with fail
  generalize ((w.alloc (.cells n.cells 61)).alloc (.cells #[.int .i64 v.k, .int .i64 v.f, .int .i64 v.h, .int .i64 v.r, .int .i64 v.v, .int .i64 v.x] 23)) = w0 at B0 Bw L0 hsz ⊢
  have hc := hcon w0 (hq.keep L0)
  have hq0 := hq.keep L0
  clear hcon hq
  go_wp2_with (first
    | (refine wpList_load_blk rfl 61 _ rfl w.heap.size rfl 61 n.cells _ B0 Try.underlying61 rfl hiN ?_)
    | (refine wpList_load_part (by rfl) 23 _ rfl (w.heap.size + 1) 0 rfl #[.int .i64 v.k, .int .i64 v.f, .int .i64 v.h, .int .i64 v.r, .int .i64 v.v, .int .i64 v.x] _ Bw.range Try.underlying23 rfl hi6 ?_)
    | (go_at_call 52; refine hc.mono ?_; rintro e w2 ⟨q', sa, sc, rfl, hown, hsaid, L2⟩; have hi5 := infoN (n.setQ q'); have Z2 : Blk (w2.alloc (.cells zN.cells 61)) w2.heap.size zN.cells 61 := Blk.new w2 _ _; have La : Below w2.heap.size w2 (w2.alloc (.cells zN.cells 61)) := (by go_grown); have B2 := B0.below L2; clear hc B0 Bw)
    | (refine wpList_store_blk rfl 61 _ _ rfl w2.heap.size zN.cells (n.setQ q').cells 61 rfl rfl Z2 (by rw [ncells_size, ncells_size]) hi5 (one_cellN _ (own_one hown)) ?_; rintro w3 B3 K3; have L3 := K3.bel _ _ (Nat.le_refl _) La; replace B2 := B2.below L3; clear Z2 La)
    | (refine wpList_load_part (by rfl) 61 _ rfl w2.heap.size 0 rfl (n.setQ q').cells _ B3.range Try.underlying61 rfl hi5 ?_)
    | (refine wpList_load_part (by rfl) 61 _ rfl w.heap.size 0 rfl n.cells _ B2.range Try.underlying61 rfl hiN ?_)
    | (go_at_call 53; refine (ksame_alike (n.setQ q') n.q l _ ((own_ints hown).keep L3) ((hq0.keep L2).keep L3) hl).mono ?_; rintro e w8 ⟨rfl, L8⟩)
    | (go_at_call 54; refine (knodes_any _).mono ?_; rintro e w9 ⟨rfl, L9⟩))
  go_ret
  exact ⟨rfl, bel_trans (bel_trans (bel_trans (bel_trans L0 L2) L3) L8) L9⟩

set_option maxRecDepth 100000 in
set_option maxHeartbeats 8000000 in
theorem kgood_ok (n : NI) (l : List Int) (who kind value : Int) (v : Wd) (m : NI) (l' : List Int) (ws : List Wd)
    (hcon : ∀ W, Ints W n.q l → Calls Try.prog 52 #[.agg n.cells, .int .i64 who, .int .i64 kind, .int .i64 value, .agg #[.int .i64 v.k, .int .i64 v.f, .int .i64 v.h, .int .i64 v.r, .int .i64 v.v, .int .i64 v.x]] W (Res W m l' ws 0)) (w : World) (hq : Ints w n.q l)
    (hset : ∀ k, k < 4 → n.settled k ≠ 0 → n.settled k = m.settled k)
    (hws : ∀ u, u ∈ ws → u.f = who ∧ n.height ≤ u.h ∧ u.h ≤ m.height ∧ (u.h = n.height → n.round ≤ u.r)) (hlen : ws.length < 4611686018427387904)
    (hgd : ∀ q W, Ints W q l' → Calls Try.prog 45 #[.agg (m.setQ q).cells] W fun e w' => e = .returned (.bool true) ∧ Below W.heap.size W w')
    (hlat : n.height < m.height ∨ (n.height = m.height ∧ (n.round < m.round ∨ (n.round = m.round ∧ n.step ≤ m.step)))) :
    Calls Try.prog 13 #[.agg n.cells, .int .i64 who, .int .i64 kind, .int .i64 value, .agg #[.int .i64 v.k, .int .i64 v.f, .int .i64 v.h, .int .i64 v.r, .int .i64 v.v, .int .i64 v.x]] w fun e w' => e = .returned (.bool true) ∧ Below w.heap.size w w' := by
  have hz := run_zeroN
  have hiN := infoN n
  have hi6 : (Try.prog.info? 23).map (·.size) = some (#[.int .i64 v.k, .int .i64 v.f, .int .i64 v.h, .int .i64 v.r, .int .i64 v.v, .int .i64 v.x] : Array Value).size := by show _ = some 6; kernel_rfl
  have B0 : Blk ((w.alloc (.cells n.cells 61)).alloc (.cells #[.int .i64 v.k, .int .i64 v.f, .int .i64 v.h, .int .i64 v.r, .int .i64 v.v, .int .i64 v.x] 23)) w.heap.size n.cells 61 := (Blk.new w _ _).alloc _
  have Bw : Blk ((w.alloc (.cells n.cells 61)).alloc (.cells #[.int .i64 v.k, .int .i64 v.f, .int .i64 v.h, .int .i64 v.r, .int .i64 v.v, .int .i64 v.x] 23)) (w.heap.size + 1) #[.int .i64 v.k, .int .i64 v.f, .int .i64 v.h, .int .i64 v.r, .int .i64 v.v, .int .i64 v.x] 23 := Blk.new1 w _ _ _
  have L0 : Below w.heap.size w ((w.alloc (.cells n.cells 61)).alloc (.cells #[.int .i64 v.k, .int .i64 v.f, .int .i64 v.h, .int .i64 v.r, .int .i64 v.v, .int .i64 v.x] 23)) := by go_grown
  have hsz : ((w.alloc (.cells n.cells 61)).alloc (.cells #[.int .i64 v.k, .int .i64 v.f, .int .i64 v.h, .int .i64 v.r, .int .i64 v.v, .int .i64 v.x] 23)).heap.size = w.heap.size + 2 := by simp
  go_enter Try.func13, Try.ntmps13
  go_upto_region 1 with fail
  generalize ((w.alloc (.cells n.cells 61)).alloc (.cells #[.int .i64 v.k, .int .i64 v.f, .int .i64 v.h, .int .i64 v.r, .int .i64 v.v, .int .i64 v.x] 23)) = w0 at B0 Bw L0 hsz ⊢
  have hc := hcon w0 (hq.keep L0)
  clear hcon hq
  go_wp2_with (first
    | (refine wpList_load_blk rfl 61 _ rfl w.heap.size rfl 61 n.cells _ B0 Try.underlying61 rfl hiN ?_)
    | (refine wpList_load_part (by rfl) 23 _ rfl (w.heap.size + 1) 0 rfl #[.int .i64 v.k, .int .i64 v.f, .int .i64 v.h, .int .i64 v.r, .int .i64 v.v, .int .i64 v.x] _ Bw.range Try.underlying23 rfl hi6 ?_)
    | (go_at_call 52; refine hc.mono ?_; rintro e w2 ⟨q', sa, sc, rfl, hown, hsaid, L2⟩; have hi5 := infoN (m.setQ q'); have Z2 : Blk (w2.alloc (.cells zN.cells 61)) w2.heap.size zN.cells 61 := Blk.new w2 _ _; have La : Below w2.heap.size w2 (w2.alloc (.cells zN.cells 61)) := (by go_grown); have B2 := B0.below L2; clear hc B0 Bw)
    | (refine wpList_store_blk rfl 61 _ _ rfl w2.heap.size zN.cells (m.setQ q').cells 61 rfl rfl Z2 (by rw [ncells_size, ncells_size]) hi5 (one_cellN _ (own_one hown)) ?_; rintro w3 B3 K3; have L3 := K3.bel _ _ (Nat.le_refl _) La; replace B2 := B2.below L3; clear Z2 La))
  have I3 := (own_ints hown).keep L3
  have S3 := (own_words hsaid).keep L3
  have LL := bel_trans (bel_trans L0 L2) L3
  clear hown hsaid L0 L2 K3 hiN hi6 hz
  go_loopw [40] (fun i W => ∃ k : Nat, k ≤ 4 ∧ i = .int .i64 (k : Int) ∧ Blk W w.heap.size n.cells 61 ∧ Blk W w2.heap.size (m.setQ q').cells 61 ∧ Words W (.slice sa ws.length sc) ws ∧ Ints W q' l' ∧ Below w.heap.size w W) (fun i _ => 4 - (intOf i).toNat)
  case atStart => exact ⟨0, by omega, rfl, B2, B3, S3, I3, LL⟩
  case round =>
    clear B2 B3 S3 I3 LL
    obtain ⟨k, hk, rfl, B1, B2, hS, hIn, hB⟩ := hrel
    by_cases hlt : k < 4
    · have hlti : (k : Int) < 4 := by omega
      have ct := B1.cell (277 + k)
      rw [show n.cells[277 + k]? = some (.int .i64 (n.settled k)) from ncells_settled _ k hlt] at ct
      have dt := B2.cell (277 + k)
      rw [show (m.setQ q').cells[277 + k]? = some (.int .i64 (m.settled k)) from ncells_settled _ k hlt] at dt
      have hs := hset k hlt
      generalize n.settled k = u at ct hs
      generalize m.settled k = u' at dt hs
      by_cases hu : u = 0
      · have hu1 : (u != 0) = false := by simpa using hu
        clear hu hs
        go_wp2
        go_quiet (fail)
        go_wp2
        go_roundw
        case rel => exact ⟨k + 1, by omega, by go_num, B1.drewN _, B2.drewN _, hS.keep (below_drewN2 (Below.refl _ _) _), hIn.keep (below_drewN2 (Below.refl _ _) _), below_drewN2 hB _⟩
        case measure => simp [intOf]; omega
      · have hu1 : (u != 0) = true := by simpa using hu
        have hu2 : (u != u') = false := by simpa using hs hu
        clear hu hs
        go_wp2
        go_quiet (fail)
        go_wp2
        go_roundw
        case rel => exact ⟨k + 1, by omega, by go_num, B1.drewN _, B2.drewN _, hS.keep (below_drewN2 (Below.refl _ _) _), hIn.keep (below_drewN2 (Below.refl _ _) _), below_drewN2 hB _⟩
        case measure => simp [intOf]; omega
    · have hlti : ¬ (k : Int) < 4 := by omega
      clear hset
      go_wp2
      go_loopw [62] (fun i W => ∃ j : Nat, j ≤ ws.length ∧ i = .int .i64 (j : Int) ∧ Blk W w.heap.size n.cells 61 ∧ Blk W w2.heap.size (m.setQ q').cells 61 ∧ Words W (.slice sa ws.length sc) ws ∧ Ints W q' l' ∧ Below w.heap.size w W) (fun i _ => ws.length - (intOf i).toNat)
      case atStart => exact ⟨0, by omega, rfl, B1, B2, hS, hIn, hB⟩
      case round =>
        clear B1 B2 hS hIn hB
        obtain ⟨j, hj, rfl, B1, B2, hS, hIn, hB⟩ := hrel
        have lt1 := B1.lt
        have lt2 := B2.lt
        have c0 := B1.cell 0
        rw [show (n).cells[0]? = some (.int .i64 n.height) from ncells_num _ 0 (by omega)] at c0
        have c1 := B1.cell 1
        rw [show (n).cells[1]? = some (.int .i64 n.round) from ncells_num _ 1 (by omega)] at c1
        have c2 := B1.cell 2
        rw [show (n).cells[2]? = some (.int .i64 n.step) from ncells_num _ 2 (by omega)] at c2
        have d0 := B2.cell 0
        rw [show (m.setQ q').cells[0]? = some (.int .i64 m.height) from ncells_num _ 0 (by omega)] at d0
        have d1 := B2.cell 1
        rw [show (m.setQ q').cells[1]? = some (.int .i64 m.round) from ncells_num _ 1 (by omega)] at d1
        have d2 := B2.cell 2
        rw [show (m.setQ q').cells[2]? = some (.int .i64 m.step) from ncells_num _ 2 (by omega)] at d2
        by_cases hlt2 : j < ws.length
        · have hx : ws[j]? = some ws[j] := List.getElem?_eq_getElem hlt2
          have hu := hws _ (List.getElem_mem hlt2)
          obtain ⟨b, o, cap, hv, a0, a1, a2, a3, a4, a5⟩ := hS.lies hx
          injection hv with hv1 hv2 hv3
          subst hv1 hv3
          generalize ws[j] = u at a0 a1 a2 a3 a4 a5 hu
          obtain ⟨h1, h2, h3, h4⟩ := hu
          have e1 : (u.f != who) = false := by simpa using h1
          have e2 : ¬ u.h < n.height := by omega
          have e3 : ¬ m.height < u.h := by omega
          by_cases e4 : u.h = n.height
          · have e5 : (u.h == n.height) = true := by simpa using e4
            have e6 : ¬ u.r < n.round := by have := h4 e4; omega
            clear h1 h2 h3 h4 e4 hx
            go_wp2
            go_roundw
            case rel => exact ⟨j + 1, by omega, by go_num, B1.below (by go_grown), B2.below (by go_grown), hS.keep (by go_grown), hIn.keep (by go_grown), bel_trans hB (by go_grown)⟩
            case measure => simp [intOf]; omega
          · have e5 : (u.h == n.height) = false := by simpa using e4
            clear h1 h2 h3 h4 e4 hx
            go_wp2
            go_roundw
            case rel => exact ⟨j + 1, by omega, by go_num, B1.below (by go_grown), B2.below (by go_grown), hS.keep (by go_grown), hIn.keep (by go_grown), bel_trans hB (by go_grown)⟩
            case measure => simp [intOf]; omega
        · have HBB : Hid (Below w.heap.size w wr) := hB
          have hgd' := hgd q' _ hIn
          have hr2 := B2.range
          have hlat2 := hlat
          clear hws hS hgd hIn hB B1 B2 lt1 lt2 hlat hj hlen
          generalize (m.setQ q').cells = MC at hr2 hgd' hi5 ⊢
          generalize n.height = x0 at c0 hlat2
          generalize n.round = x1 at c1 hlat2
          generalize n.step = x2 at c2 hlat2
          generalize m.height = y0 at d0 hlat2
          generalize m.round = y1 at d1 hlat2
          generalize m.step = y2 at d2 hlat2
          generalize w2.heap.size = p at *
          go_upto_region 16 with fail
          rcases hlat2 with h1 | ⟨h1, h2 | ⟨h2, h3⟩⟩
          · have g0 : y0 > x0 := h1
            refine wp_region_lit (WL.out ?_)
            refine l_load (by rfl) 61 _ rfl p 0 rfl MC _ hr2 Try.underlying61 rfl hi5 ?_
            simp only [Act.put, List.setIfInBounds_toArray, List.set_cons_zero, List.set_cons_succ]
            refine l_call_ex (by rfl) ⟨45, #[.agg MC], ?_, ?_⟩
            · go_simp
            refine hgd'.mono ?_
            clear hgd' hr2
            rintro e w5 ⟨rfl, L5⟩
            replace c0 := cell_kept c0 L5; replace c1 := cell_kept c1 L5; replace c2 := cell_kept c2 L5; replace d0 := cell_kept d0 L5; replace d1 := cell_kept d1 L5; replace d2 := cell_kept d2 L5
            have HL5 : Hid _ := L5
            clear L5
            refine ⟨_, rfl, ?_⟩
            simp only [Act.put, List.setIfInBounds_toArray, List.set_cons_zero, List.set_cons_succ]
            repeat (first
              | (refine l_skip (by rfl) ?_; simp only [Act.put, List.setIfInBounds_toArray, List.set_cons_zero, List.set_cons_succ])
              | (refine l_run_ex (by rfl) ?_
                 apply Exists.intro
                 refine ⟨?_, ?_⟩
                 · go_simp; rfl
                 simp only [Act.put, List.setIfInBounds_toArray, List.set_cons_zero, List.set_cons_succ]))
            refine l_call_ex (by rfl) ⟨54, #[], ?_, ?_⟩
            · go_simp
            refine (knodes_any _).mono ?_
            rintro e w9 ⟨rfl, L9⟩
            refine ⟨_, rfl, ?_⟩
            simp only [Act.put, List.setIfInBounds_toArray, List.set_cons_zero, List.set_cons_succ]
            repeat (first
              | (refine l_run_ex (by rfl) ?_
                 apply Exists.intro
                 refine ⟨?_, ?_⟩
                 · go_simp; rfl
                 simp only [Act.put, List.setIfInBounds_toArray, List.set_cons_zero, List.set_cons_succ]))
            refine l_nil ?_
            go_wp2
            go_ret
            exact ⟨rfl, bel_trans (bel_trans HBB.out HL5.out) L9⟩
          · have g1 : ¬ y0 > x0 := by omega
            have g2 : (y0 == x0) = true := by simpa using h1.symm
            have g3 : y1 > x1 := h2
            clear h1
            refine wp_region_lit (WL.out ?_)
            refine l_load (by rfl) 61 _ rfl p 0 rfl MC _ hr2 Try.underlying61 rfl hi5 ?_
            simp only [Act.put, List.setIfInBounds_toArray, List.set_cons_zero, List.set_cons_succ]
            refine l_call_ex (by rfl) ⟨45, #[.agg MC], ?_, ?_⟩
            · go_simp
            refine hgd'.mono ?_
            clear hgd' hr2
            rintro e w5 ⟨rfl, L5⟩
            replace c0 := cell_kept c0 L5; replace c1 := cell_kept c1 L5; replace c2 := cell_kept c2 L5; replace d0 := cell_kept d0 L5; replace d1 := cell_kept d1 L5; replace d2 := cell_kept d2 L5
            have HL5 : Hid _ := L5
            clear L5
            refine ⟨_, rfl, ?_⟩
            simp only [Act.put, List.setIfInBounds_toArray, List.set_cons_zero, List.set_cons_succ]
            repeat (first
              | (refine l_skip (by rfl) ?_; simp only [Act.put, List.setIfInBounds_toArray, List.set_cons_zero, List.set_cons_succ])
              | (refine l_run_ex (by rfl) ?_
                 apply Exists.intro
                 refine ⟨?_, ?_⟩
                 · go_simp; rfl
                 simp only [Act.put, List.setIfInBounds_toArray, List.set_cons_zero, List.set_cons_succ]))
            refine l_call_ex (by rfl) ⟨54, #[], ?_, ?_⟩
            · go_simp
            refine (knodes_any _).mono ?_
            rintro e w9 ⟨rfl, L9⟩
            refine ⟨_, rfl, ?_⟩
            simp only [Act.put, List.setIfInBounds_toArray, List.set_cons_zero, List.set_cons_succ]
            repeat (first
              | (refine l_run_ex (by rfl) ?_
                 apply Exists.intro
                 refine ⟨?_, ?_⟩
                 · go_simp; rfl
                 simp only [Act.put, List.setIfInBounds_toArray, List.set_cons_zero, List.set_cons_succ]))
            refine l_nil ?_
            go_wp2
            go_ret
            exact ⟨rfl, bel_trans (bel_trans HBB.out HL5.out) L9⟩
          · have g1 : ¬ y0 > x0 := by omega
            have g2 : (y0 == x0) = true := by simpa using h1.symm
            have g3 : ¬ y1 > x1 := by omega
            have g4 : (y1 == x1) = true := by simpa using h2.symm
            have g5 : y2 ≥ x2 := h3
            clear h1 h2
            refine wp_region_lit (WL.out ?_)
            refine l_load (by rfl) 61 _ rfl p 0 rfl MC _ hr2 Try.underlying61 rfl hi5 ?_
            simp only [Act.put, List.setIfInBounds_toArray, List.set_cons_zero, List.set_cons_succ]
            refine l_call_ex (by rfl) ⟨45, #[.agg MC], ?_, ?_⟩
            · go_simp
            refine hgd'.mono ?_
            clear hgd' hr2
            rintro e w5 ⟨rfl, L5⟩
            replace c0 := cell_kept c0 L5; replace c1 := cell_kept c1 L5; replace c2 := cell_kept c2 L5; replace d0 := cell_kept d0 L5; replace d1 := cell_kept d1 L5; replace d2 := cell_kept d2 L5
            have HL5 : Hid _ := L5
            clear L5
            refine ⟨_, rfl, ?_⟩
            simp only [Act.put, List.setIfInBounds_toArray, List.set_cons_zero, List.set_cons_succ]
            repeat (first
              | (refine l_skip (by rfl) ?_; simp only [Act.put, List.setIfInBounds_toArray, List.set_cons_zero, List.set_cons_succ])
              | (refine l_run_ex (by rfl) ?_
                 apply Exists.intro
                 refine ⟨?_, ?_⟩
                 · go_simp; rfl
                 simp only [Act.put, List.setIfInBounds_toArray, List.set_cons_zero, List.set_cons_succ]))
            refine l_call_ex (by rfl) ⟨54, #[], ?_, ?_⟩
            · go_simp
            refine (knodes_any _).mono ?_
            rintro e w9 ⟨rfl, L9⟩
            refine ⟨_, rfl, ?_⟩
            simp only [Act.put, List.setIfInBounds_toArray, List.set_cons_zero, List.set_cons_succ]
            repeat (first
              | (refine l_run_ex (by rfl) ?_
                 apply Exists.intro
                 refine ⟨?_, ?_⟩
                 · go_simp; rfl
                 simp only [Act.put, List.setIfInBounds_toArray, List.set_cons_zero, List.set_cons_succ]))
            refine l_nil ?_
            go_wp2
            go_ret
            exact ⟨rfl, bel_trans (bel_trans HBB.out HL5.out) L9⟩
end Go.Proofs.Ytmmgaonlmpajbaa
