/-
  The statement NodeQuiet.
-/
import Derived.Test.YtmmgaonlmpajbaaKAfter
import Derived.Test.YtmmgaonlmpajbaaNodeB
import Derived.Test.YtmmgaonlmpajbaaPlainN
namespace Go.Proofs.Ytmmgaonlmpajbaa
open Go.RowKit

theorem pair_of {v i : Int} {r : Nat} (h : OkPair v i r) : okPair v i r = true := by
  simp only [okPair, Bool.or_eq_true, Bool.and_eq_true, beq_iff_eq, win_iff]
  rcases h with h | ⟨h1, h2, h3, h4⟩
  · exact Or.inl h
  · exact Or.inr ⟨⟨h1, h2⟩, h3, h4⟩
theorem goodN_of {n : Nd} (G : GN n) (q : Value) : goodN (n.ni q) n.queue = true := by
  have h1 := G.height
  have h2 := G.round
  have h3 := G.step
  have h4 := G.qlen
  have a1 : okHead (n.ni q) n.queue = true := by
    simp only [okHead, Bool.and_eq_true, win_iff, decide_eq_true_eq]
    refine ⟨⟨⟨⟨?_, ?_⟩, ?_, ?_⟩, ?_, ?_⟩, ?_⟩
    · show (0 : Int) ≤ (n.height : Int); omega
    · show (n.height : Int) ≤ 4; omega
    · show (0 : Int) ≤ (n.round : Int); omega
    · show (n.round : Int) ≤ 5; omega
    · show (0 : Int) ≤ (n.step : Int); omega
    · show (n.step : Int) ≤ 2; omega
    · omega
  have a2 : okPair (n.ni q).bound (n.ni q).boundIn (n.ni q).round = true := pair_of G.bd
  have a3 : okPair (n.ni q).valid (n.ni q).validIn (n.ni q).round = true := pair_of G.vd
  have a4 : okHeights (n.ni q) 4 = true := (heights_iff _ 4).2 fun h hh => ⟨G.sheets h, by
    unfold okSettled
    by_cases c : (h : Int) < (n.ni q).height
    · rw [if_pos c, win_iff]
      have c' : (h : Int) < (n.height : Int) := c
      exact G.low h (by omega)
    · rw [if_neg c]
      have c' : ¬ (h : Int) < (n.height : Int) := c
      have := G.high h (by omega) hh
      show (n.settled h == 0) = true
      rw [this]; rfl⟩
  have a5 : okQueue n.queue n.queue.length = true := (okQueue_iff _ _).2 fun j hj => by
    rw [win_iff, List.getD_eq_getElem?_getD, List.getElem?_eq_getElem hj]
    exact G.queue _ (List.getElem_mem hj)
  unfold goodN
  rw [a1, a2, a3, a4, a5]; rfl
theorem nd_ni {a : At} (h : Beyond noSh a) (q : Value) : (a.n.ni q).nd a.n.queue = a.n := by
  have e : (fun g => if g < 4 then a.n.heard g else noSh) = a.n.heard := by
    funext g
    by_cases c : g < 4
    · rw [if_pos c]
    · rw [if_neg c, h.2 g (by omega)]
  unfold NI.nd Nd.ni
  simp only [e, Int.toNat_natCast]


set_option maxRecDepth 100000 in
set_option maxHeartbeats 4000000 in
theorem quiet_code (n : NI) (l : List Int) (who kind value : Int) (v : Wd) (m : NI) (l' : List Int) (ws : List Wd) (code : Int)
    (hcon : ∀ W, Ints W n.q l → Calls Try.prog 52 #[.agg n.cells, .int .i64 who, .int .i64 kind, .int .i64 value, .agg #[.int .i64 v.k, .int .i64 v.f, .int .i64 v.h, .int .i64 v.r, .int .i64 v.v, .int .i64 v.x]] W (Res W m l' ws code)) (w : World) (hq : Ints w n.q l) (hne : code ≠ 0) :
    Calls Try.prog 14 #[.agg n.cells, .int .i64 who, .int .i64 kind, .int .i64 value, .agg #[.int .i64 v.k, .int .i64 v.f, .int .i64 v.h, .int .i64 v.r, .int .i64 v.v, .int .i64 v.x]] w fun e w' => e = .returned (.bool true) ∧ Below w.heap.size w w' := by
  have hz := run_zeroN
  have hiN := infoN n
  have hi6 : (Try.prog.info? 23).map (·.size) = some (#[.int .i64 v.k, .int .i64 v.f, .int .i64 v.h, .int .i64 v.r, .int .i64 v.v, .int .i64 v.x] : Array Value).size := by show _ = some 6; kernel_rfl
  have B0 : Blk ((w.alloc (.cells n.cells 61)).alloc (.cells #[.int .i64 v.k, .int .i64 v.f, .int .i64 v.h, .int .i64 v.r, .int .i64 v.v, .int .i64 v.x] 23)) w.heap.size n.cells 61 := (Blk.new w _ _).alloc _
  have Bw : Blk ((w.alloc (.cells n.cells 61)).alloc (.cells #[.int .i64 v.k, .int .i64 v.f, .int .i64 v.h, .int .i64 v.r, .int .i64 v.v, .int .i64 v.x] 23)) (w.heap.size + 1) #[.int .i64 v.k, .int .i64 v.f, .int .i64 v.h, .int .i64 v.r, .int .i64 v.v, .int .i64 v.x] 23 := Blk.new1 w _ _ _
  have L0 : Below w.heap.size w ((w.alloc (.cells n.cells 61)).alloc (.cells #[.int .i64 v.k, .int .i64 v.f, .int .i64 v.h, .int .i64 v.r, .int .i64 v.v, .int .i64 v.x] 23)) := by go_grown
  have hsz : ((w.alloc (.cells n.cells 61)).alloc (.cells #[.int .i64 v.k, .int .i64 v.f, .int .i64 v.h, .int .i64 v.r, .int .i64 v.v, .int .i64 v.x] 23)).heap.size = w.heap.size + 2 := by simp
  have hc2 : (code != 0) = true := by simpa using hne
  clear hne
  go_enter Try.func14, Try.ntmps14
  go_upto_region 1 with fail
  generalize ((w.alloc (.cells n.cells 61)).alloc (.cells #[.int .i64 v.k, .int .i64 v.f, .int .i64 v.h, .int .i64 v.r, .int .i64 v.v, .int .i64 v.x] 23)) = w0 at B0 Bw L0 hsz ⊢
  have hc := hcon w0 (hq.keep L0)
  clear hcon hq
  go_wp2_with (first
    | (refine wpList_load_blk rfl 61 _ rfl w.heap.size rfl 61 n.cells _ B0 Try.underlying61 rfl hiN ?_)
    | (refine wpList_load_part (by rfl) 23 _ rfl (w.heap.size + 1) 0 rfl #[.int .i64 v.k, .int .i64 v.f, .int .i64 v.h, .int .i64 v.r, .int .i64 v.v, .int .i64 v.x] _ Bw.range Try.underlying23 rfl hi6 ?_)
    | (go_at_call 52; refine hc.mono ?_; rintro e w2 ⟨q', sa, sc, rfl, hown, hsaid, L2⟩; have hi5 := infoN (m.setQ q'); have Z2 : Blk (w2.alloc (.cells zN.cells 61)) w2.heap.size zN.cells 61 := Blk.new w2 _ _; have La : Below w2.heap.size w2 (w2.alloc (.cells zN.cells 61)) := (by go_grown); replace Bw := Bw.below L2; clear hc B0)
    | (refine wpList_store_blk rfl 61 _ _ rfl w2.heap.size zN.cells (m.setQ q').cells 61 rfl rfl Z2 (by rw [ncells_size, ncells_size]) hi5 (one_cellN _ (own_one hown)) ?_; rintro w3 B3 K3; have L3 := K3.bel _ _ (Nat.le_refl _) La; replace Bw := Bw.below L3; clear Z2 La)
    | (go_at_call 54; refine (knodes_any _).mono ?_; rintro e w9 ⟨rfl, L9⟩))
  go_ret
  exact ⟨rfl, bel_trans (bel_trans (bel_trans L0 L2) L3) L9⟩

set_option maxRecDepth 100000 in
set_option maxHeartbeats 4000000 in
theorem quiet_word (n : NI) (l : List Int) (who kind value : Int) (v : Wd) (m : NI) (l' : List Int) (ws : List Wd) (code : Int)
    (hcon : ∀ W, Ints W n.q l → Calls Try.prog 52 #[.agg n.cells, .int .i64 who, .int .i64 kind, .int .i64 value, .agg #[.int .i64 v.k, .int .i64 v.f, .int .i64 v.h, .int .i64 v.r, .int .i64 v.v, .int .i64 v.x]] W (Res W m l' ws code)) (w : World) (hq : Ints w n.q l) (h0 : code = 0) (c : Int) (hc0 : goodC v.k v.f v.h v.r v.v v.x = c) (hne : c ≠ 0) :
    Calls Try.prog 14 #[.agg n.cells, .int .i64 who, .int .i64 kind, .int .i64 value, .agg #[.int .i64 v.k, .int .i64 v.f, .int .i64 v.h, .int .i64 v.r, .int .i64 v.v, .int .i64 v.x]] w fun e w' => e = .returned (.bool true) ∧ Below w.heap.size w w' := by
  have hz := run_zeroN
  have hiN := infoN n
  have hi6 : (Try.prog.info? 23).map (·.size) = some (#[.int .i64 v.k, .int .i64 v.f, .int .i64 v.h, .int .i64 v.r, .int .i64 v.v, .int .i64 v.x] : Array Value).size := by show _ = some 6; kernel_rfl
  have B0 : Blk ((w.alloc (.cells n.cells 61)).alloc (.cells #[.int .i64 v.k, .int .i64 v.f, .int .i64 v.h, .int .i64 v.r, .int .i64 v.v, .int .i64 v.x] 23)) w.heap.size n.cells 61 := (Blk.new w _ _).alloc _
  have Bw : Blk ((w.alloc (.cells n.cells 61)).alloc (.cells #[.int .i64 v.k, .int .i64 v.f, .int .i64 v.h, .int .i64 v.r, .int .i64 v.v, .int .i64 v.x] 23)) (w.heap.size + 1) #[.int .i64 v.k, .int .i64 v.f, .int .i64 v.h, .int .i64 v.r, .int .i64 v.v, .int .i64 v.x] 23 := Blk.new1 w _ _ _
  have L0 : Below w.heap.size w ((w.alloc (.cells n.cells 61)).alloc (.cells #[.int .i64 v.k, .int .i64 v.f, .int .i64 v.h, .int .i64 v.r, .int .i64 v.v, .int .i64 v.x] 23)) := by go_grown
  have hsz : ((w.alloc (.cells n.cells 61)).alloc (.cells #[.int .i64 v.k, .int .i64 v.f, .int .i64 v.h, .int .i64 v.r, .int .i64 v.v, .int .i64 v.x] 23)).heap.size = w.heap.size + 2 := by simp
  subst h0
  have hwg : ∀ W, Calls Try.prog 19 #[.agg #[.int .i64 v.k, .int .i64 v.f, .int .i64 v.h, .int .i64 v.r, .int .i64 v.v, .int .i64 v.x]] W fun e w' => e = .returned (.int .i64 c) ∧ Below W.heap.size W w' := fun W => by have := good_any v.k v.f v.h v.r v.v v.x W; rwa [hc0] at this
  clear hc0
  have hc2 : (c != 0) = true := by simpa using hne
  clear hne
  go_enter Try.func14, Try.ntmps14
  go_upto_region 1 with fail
  generalize ((w.alloc (.cells n.cells 61)).alloc (.cells #[.int .i64 v.k, .int .i64 v.f, .int .i64 v.h, .int .i64 v.r, .int .i64 v.v, .int .i64 v.x] 23)) = w0 at B0 Bw L0 hsz ⊢
  have hc := hcon w0 (hq.keep L0)
  clear hcon hq
  go_wp2_with (first
    | (refine wpList_load_blk rfl 61 _ rfl w.heap.size rfl 61 n.cells _ B0 Try.underlying61 rfl hiN ?_)
    | (refine wpList_load_part (by rfl) 23 _ rfl (w.heap.size + 1) 0 rfl #[.int .i64 v.k, .int .i64 v.f, .int .i64 v.h, .int .i64 v.r, .int .i64 v.v, .int .i64 v.x] _ Bw.range Try.underlying23 rfl hi6 ?_)
    | (go_at_call 52; refine hc.mono ?_; rintro e w2 ⟨q', sa, sc, rfl, hown, hsaid, L2⟩; have hi5 := infoN (m.setQ q'); have Z2 : Blk (w2.alloc (.cells zN.cells 61)) w2.heap.size zN.cells 61 := Blk.new w2 _ _; have La : Below w2.heap.size w2 (w2.alloc (.cells zN.cells 61)) := (by go_grown); replace Bw := Bw.below L2; clear hc B0)
    | (refine wpList_store_blk rfl 61 _ _ rfl w2.heap.size zN.cells (m.setQ q').cells 61 rfl rfl Z2 (by rw [ncells_size, ncells_size]) hi5 (one_cellN _ (own_one hown)) ?_; rintro w3 B3 K3; have L3 := K3.bel _ _ (Nat.le_refl _) La; replace Bw := Bw.below L3; clear Z2 La)
    | (go_at_call 19; refine (hwg _).mono ?_; rintro e w4 ⟨rfl, L4⟩; replace Bw := Bw.below L4)
    | (go_at_call 54; refine (knodes_any _).mono ?_; rintro e w9 ⟨rfl, L9⟩))
  go_ret
  exact ⟨rfl, bel_trans (bel_trans (bel_trans (bel_trans L0 L2) L3) L4) L9⟩

set_option maxRecDepth 100000 in
set_option maxHeartbeats 4000000 in
theorem quiet_kind (n : NI) (l : List Int) (who kind value : Int) (v : Wd) (m : NI) (l' : List Int) (ws : List Wd) (code : Int)
    (hcon : ∀ W, Ints W n.q l → Calls Try.prog 52 #[.agg n.cells, .int .i64 who, .int .i64 kind, .int .i64 value, .agg #[.int .i64 v.k, .int .i64 v.f, .int .i64 v.h, .int .i64 v.r, .int .i64 v.v, .int .i64 v.x]] W (Res W m l' ws code)) (w : World) (hq : Ints w n.q l) (h0 : code = 0) (hc0 : goodC v.k v.f v.h v.r v.v v.x = 0) (hne : kind ≠ 0) :
    Calls Try.prog 14 #[.agg n.cells, .int .i64 who, .int .i64 kind, .int .i64 value, .agg #[.int .i64 v.k, .int .i64 v.f, .int .i64 v.h, .int .i64 v.r, .int .i64 v.v, .int .i64 v.x]] w fun e w' => e = .returned (.bool true) ∧ Below w.heap.size w w' := by
  have hz := run_zeroN
  have hiN := infoN n
  have hi6 : (Try.prog.info? 23).map (·.size) = some (#[.int .i64 v.k, .int .i64 v.f, .int .i64 v.h, .int .i64 v.r, .int .i64 v.v, .int .i64 v.x] : Array Value).size := by show _ = some 6; kernel_rfl
  have B0 : Blk ((w.alloc (.cells n.cells 61)).alloc (.cells #[.int .i64 v.k, .int .i64 v.f, .int .i64 v.h, .int .i64 v.r, .int .i64 v.v, .int .i64 v.x] 23)) w.heap.size n.cells 61 := (Blk.new w _ _).alloc _
  have Bw : Blk ((w.alloc (.cells n.cells 61)).alloc (.cells #[.int .i64 v.k, .int .i64 v.f, .int .i64 v.h, .int .i64 v.r, .int .i64 v.v, .int .i64 v.x] 23)) (w.heap.size + 1) #[.int .i64 v.k, .int .i64 v.f, .int .i64 v.h, .int .i64 v.r, .int .i64 v.v, .int .i64 v.x] 23 := Blk.new1 w _ _ _
  have L0 : Below w.heap.size w ((w.alloc (.cells n.cells 61)).alloc (.cells #[.int .i64 v.k, .int .i64 v.f, .int .i64 v.h, .int .i64 v.r, .int .i64 v.v, .int .i64 v.x] 23)) := by go_grown
  have hsz : ((w.alloc (.cells n.cells 61)).alloc (.cells #[.int .i64 v.k, .int .i64 v.f, .int .i64 v.h, .int .i64 v.r, .int .i64 v.v, .int .i64 v.x] 23)).heap.size = w.heap.size + 2 := by simp
  subst h0
  have hwg : ∀ W, Calls Try.prog 19 #[.agg #[.int .i64 v.k, .int .i64 v.f, .int .i64 v.h, .int .i64 v.r, .int .i64 v.v, .int .i64 v.x]] W fun e w' => e = .returned (.int .i64 0) ∧ Below W.heap.size W w' := fun W => by have := good_any v.k v.f v.h v.r v.v v.x W; rwa [hc0] at this
  clear hc0
  have hc2 : (kind != 0) = true := by simpa using hne
  clear hne
  go_enter Try.func14, Try.ntmps14
  go_upto_region 1 with fail
  generalize ((w.alloc (.cells n.cells 61)).alloc (.cells #[.int .i64 v.k, .int .i64 v.f, .int .i64 v.h, .int .i64 v.r, .int .i64 v.v, .int .i64 v.x] 23)) = w0 at B0 Bw L0 hsz ⊢
  have hc := hcon w0 (hq.keep L0)
  clear hcon hq
  go_wp2_with (first
    | (refine wpList_load_blk rfl 61 _ rfl w.heap.size rfl 61 n.cells _ B0 Try.underlying61 rfl hiN ?_)
    | (refine wpList_load_part (by rfl) 23 _ rfl (w.heap.size + 1) 0 rfl #[.int .i64 v.k, .int .i64 v.f, .int .i64 v.h, .int .i64 v.r, .int .i64 v.v, .int .i64 v.x] _ Bw.range Try.underlying23 rfl hi6 ?_)
    | (go_at_call 52; refine hc.mono ?_; rintro e w2 ⟨q', sa, sc, rfl, hown, hsaid, L2⟩; have hi5 := infoN (m.setQ q'); have Z2 : Blk (w2.alloc (.cells zN.cells 61)) w2.heap.size zN.cells 61 := Blk.new w2 _ _; have La : Below w2.heap.size w2 (w2.alloc (.cells zN.cells 61)) := (by go_grown); replace Bw := Bw.below L2; clear hc B0)
    | (refine wpList_store_blk rfl 61 _ _ rfl w2.heap.size zN.cells (m.setQ q').cells 61 rfl rfl Z2 (by rw [ncells_size, ncells_size]) hi5 (one_cellN _ (own_one hown)) ?_; rintro w3 B3 K3; have L3 := K3.bel _ _ (Nat.le_refl _) La; replace Bw := Bw.below L3; clear Z2 La)
    | (go_at_call 19; refine (hwg _).mono ?_; rintro e w4 ⟨rfl, L4⟩; replace Bw := Bw.below L4)
    | (go_at_call 54; refine (knodes_any _).mono ?_; rintro e w9 ⟨rfl, L9⟩))
  go_ret
  exact ⟨rfl, bel_trans (bel_trans (bel_trans (bel_trans L0 L2) L3) L4) L9⟩

set_option maxRecDepth 100000 in
set_option maxHeartbeats 4000000 in
theorem quiet_again (n : NI) (l : List Int) (who kind value : Int) (v : Wd) (m : NI) (l' : List Int) (ws : List Wd) (code : Int)
    (hcon : ∀ W, Ints W n.q l → Calls Try.prog 52 #[.agg n.cells, .int .i64 who, .int .i64 kind, .int .i64 value, .agg #[.int .i64 v.k, .int .i64 v.f, .int .i64 v.h, .int .i64 v.r, .int .i64 v.v, .int .i64 v.x]] W (Res W m l' ws code)) (w : World) (hq : Ints w n.q l) (h0 : code = 0) (hc0 : goodC v.k v.f v.h v.r v.v v.x = 0) (hkk : kind = 0) (hl' : l'.length < 4611686018427387904) (hagain : ∀ q W, Ints W q l' → Calls Try.prog 41 #[.agg (m.setQ q).cells, .int .i64 who, .agg #[.int .i64 v.k, .int .i64 v.f, .int .i64 v.h, .int .i64 v.r, .int .i64 v.v, .int .i64 v.x]] W (Res W m l' [] 0)) :
    Calls Try.prog 14 #[.agg n.cells, .int .i64 who, .int .i64 kind, .int .i64 value, .agg #[.int .i64 v.k, .int .i64 v.f, .int .i64 v.h, .int .i64 v.r, .int .i64 v.v, .int .i64 v.x]] w fun e w' => e = .returned (.bool true) ∧ Below w.heap.size w w' := by
  have hz := run_zeroN
  have hiN := infoN n
  have hi6 : (Try.prog.info? 23).map (·.size) = some (#[.int .i64 v.k, .int .i64 v.f, .int .i64 v.h, .int .i64 v.r, .int .i64 v.v, .int .i64 v.x] : Array Value).size := by show _ = some 6; kernel_rfl
  have B0 : Blk ((w.alloc (.cells n.cells 61)).alloc (.cells #[.int .i64 v.k, .int .i64 v.f, .int .i64 v.h, .int .i64 v.r, .int .i64 v.v, .int .i64 v.x] 23)) w.heap.size n.cells 61 := (Blk.new w _ _).alloc _
  have Bw : Blk ((w.alloc (.cells n.cells 61)).alloc (.cells #[.int .i64 v.k, .int .i64 v.f, .int .i64 v.h, .int .i64 v.r, .int .i64 v.v, .int .i64 v.x] 23)) (w.heap.size + 1) #[.int .i64 v.k, .int .i64 v.f, .int .i64 v.h, .int .i64 v.r, .int .i64 v.v, .int .i64 v.x] 23 := Blk.new1 w _ _ _
  have L0 : Below w.heap.size w ((w.alloc (.cells n.cells 61)).alloc (.cells #[.int .i64 v.k, .int .i64 v.f, .int .i64 v.h, .int .i64 v.r, .int .i64 v.v, .int .i64 v.x] 23)) := by go_grown
  have hsz : ((w.alloc (.cells n.cells 61)).alloc (.cells #[.int .i64 v.k, .int .i64 v.f, .int .i64 v.h, .int .i64 v.r, .int .i64 v.v, .int .i64 v.x] 23)).heap.size = w.heap.size + 2 := by simp
  subst h0
  have hwg : ∀ W, Calls Try.prog 19 #[.agg #[.int .i64 v.k, .int .i64 v.f, .int .i64 v.h, .int .i64 v.r, .int .i64 v.v, .int .i64 v.x]] W fun e w' => e = .returned (.int .i64 0) ∧ Below W.heap.size W w' := fun W => by have := good_any v.k v.f v.h v.r v.v v.x W; rwa [hc0] at this
  clear hc0
  have hk0 : (kind != 0) = false := by simpa using hkk
  clear hkk
  go_enter Try.func14, Try.ntmps14
  go_upto_region 1 with fail
  generalize ((w.alloc (.cells n.cells 61)).alloc (.cells #[.int .i64 v.k, .int .i64 v.f, .int .i64 v.h, .int .i64 v.r, .int .i64 v.v, .int .i64 v.x] 23)) = w0 at B0 Bw L0 hsz ⊢
  have hc := hcon w0 (hq.keep L0)
  clear hcon hq
  go_wp2_with (first
    | (refine wpList_load_blk rfl 61 _ rfl w.heap.size rfl 61 n.cells _ B0 Try.underlying61 rfl hiN ?_)
    | (refine wpList_load_part (by rfl) 23 _ rfl (w.heap.size + 1) 0 rfl #[.int .i64 v.k, .int .i64 v.f, .int .i64 v.h, .int .i64 v.r, .int .i64 v.v, .int .i64 v.x] _ Bw.range Try.underlying23 rfl hi6 ?_)
    | (go_at_call 52; refine hc.mono ?_; rintro e w2 ⟨q', sa, sc, rfl, hown, hsaid, L2⟩; have hi5 := infoN (m.setQ q'); have Z2 : Blk (w2.alloc (.cells zN.cells 61)) w2.heap.size zN.cells 61 := Blk.new w2 _ _; have La : Below w2.heap.size w2 (w2.alloc (.cells zN.cells 61)) := (by go_grown); replace Bw := Bw.below L2; clear hc B0)
    | (refine wpList_store_blk rfl 61 _ _ rfl w2.heap.size zN.cells (m.setQ q').cells 61 rfl rfl Z2 (by rw [ncells_size, ncells_size]) hi5 (one_cellN _ (own_one hown)) ?_; rintro w3 B3 K3; have L3 := K3.bel _ _ (Nat.le_refl _) La; replace Bw := Bw.below L3; clear Z2 La)
    | (go_at_call 19; refine (hwg _).mono ?_; rintro e w4 ⟨rfl, L4⟩; replace Bw := Bw.below L4; have B4 := B3.below L4)
    | (refine wpList_load_part (by rfl) 61 _ rfl w2.heap.size 0 rfl (m.setQ q').cells _ B4.range Try.underlying61 rfl hi5 ?_)
    | (go_at_call 41; have hI4 := own_ints (own_below (own_below hown L3) L4); refine (hagain q' _ hI4).mono ?_; rintro e w6 ⟨q6, sa6, sc6, rfl, hown6, hsaid6, L6⟩; have hi7 := infoN (m.setQ q6); have Z6 : Blk (w6.alloc (.cells zN.cells 61)) w6.heap.size zN.cells 61 := Blk.new w6 _ _; have Lb : Below w6.heap.size w6 (w6.alloc (.cells zN.cells 61)) := (by go_grown); have B6 := B4.below L6; have hI6 := hI4.keep L6; clear hagain)
    | (refine wpList_store_blk rfl 61 _ _ rfl w6.heap.size zN.cells (m.setQ q6).cells 61 rfl rfl Z6 (by rw [ncells_size, ncells_size]) hi7 (one_cellN _ (own_one hown6)) ?_; rintro w7 B7 K7; have L7 := K7.bel _ _ (Nat.le_refl _) Lb; have B67 := B6.below L7; have hI7 := hI6.keep L7; have hJ7 := (own_ints hown6).keep L7; clear Z6 Lb)
    | (refine wpList_load_part (by rfl) 61 _ rfl w2.heap.size 0 rfl (m.setQ q').cells _ B67.range Try.underlying61 rfl hi5 ?_)
    | (refine wpList_load_part (by rfl) 61 _ rfl w6.heap.size 0 rfl (m.setQ q6).cells _ B7.range Try.underlying61 rfl hi7 ?_)
    | (go_at_call 53; refine (ksame_alike (m.setQ q') q6 l' _ hI7 hJ7 hl').mono ?_; rintro e w8 ⟨rfl, L8⟩)
    | (go_at_call 54; refine (knodes_any _).mono ?_; rintro e w9 ⟨rfl, L9⟩))
  go_ret
  exact ⟨rfl, bel_trans (bel_trans (bel_trans (bel_trans (bel_trans (bel_trans (bel_trans L0 L2) L3) L4) L6) L7) L8) L9⟩

theorem nodeQuiet_any (n : NI) (l : List Int) (who kind value : Int) (v : Wd) (w : World) (hq : Ints w n.q l) (hl : l.length * 8 ≤ 140737488355328) :
    Calls Try.prog 14 #[.agg n.cells, .int .i64 who, .int .i64 kind, .int .i64 value, .agg #[.int .i64 v.k, .int .i64 v.f, .int .i64 v.h, .int .i64 v.r, .int .i64 v.v, .int .i64 v.x]] w fun e w' => e = .returned (.bool true) ∧ Below w.heap.size w w' := by
  by_cases hk : kind = 0
  · obtain ⟨o, m, l', ws, code, hS, hcon, hO⟩ := nhear_says n l who v hl
    have hc := after_Hear n l who kind value v m l' ws code hk hcon
    cases o with
    | none => exact quiet_code n l who kind value v m l' ws code hc w hq hS.2.2.2
    | some a =>
      obtain ⟨rfl, rfl, rfl, rfl⟩ := hS
      obtain ⟨hg, gv, whon, h, rfl, hw4, hvh, rfl⟩ := hO a rfl
      have G := (gn_of hg).1
      have F1 : FI ⟨(n.nd l).setSheet h (hearW ((n.nd l).heard h) v), []⟩ := FI.start (G.hear h v)
      have hh4 : h < 4 := by have := goodC_bds gv; omega
      have HB : Beyond noSh (follow whon ⟨(n.nd l).setSheet h (hearW ((n.nd l).heard h) v), []⟩) := (beyond_steady whon noSh).follow F1 ⟨G.height, fun g hg4 => by
        show (if g = h then _ else (n.nd l).heard g) = noSh
        rw [if_neg (by omega)]
        show (if g < 4 then n.heard g else noSh) = noSh
        rw [if_neg (by omega)]⟩
      have G2 := (follow_ends (who := whon) _ _ F1 (Nat.le_refl _)).2.good
      have hag := hear_again (who := whon) G gv hvh
      generalize follow whon ⟨(n.nd l).setSheet h (hearW ((n.nd l).heard h) v), []⟩ = a at *
      simp only at hag
      refine quiet_again n l whon kind value v (a.n.ni (.slice none 0 0)) a.n.queue a.words 0 hc w hq rfl gv hk (by have := G2.qlen; omega) (fun q W hW => ?_)
      have h1 := nhear_good (a.n.ni q) a.n.queue whon v W hW (by have := G2.qlen; omega) (goodN_of G2 q) whon rfl hw4 h hvh gv
      rw [nd_ni HB q, hag] at h1
      exact h1.mono (fun _ _ hd => res_done hd)
  · by_cases hk1 : kind = 1
    · obtain ⟨o, m, l', ws, code, hS, hcon, hO⟩ := nsub_says n l who value hl
      have hc := after_Submit n l who kind value v m l' ws code hk1 hcon
      by_cases h0 : code = 0
      · by_cases hg : goodC v.k v.f v.h v.r v.v v.x = 0
        · exact quiet_kind n l who kind value v m l' ws code hc w hq h0 hg hk
        · exact quiet_word n l who kind value v m l' ws code hc w hq h0 _ rfl hg
      · exact quiet_code n l who kind value v m l' ws code hc w hq h0
    · obtain ⟨o, m, l', ws, code, hS, hcon, hO⟩ := ntime_says n l who hl
      have hc := after_Time n l who kind value v m l' ws code ⟨hk, hk1⟩ hcon
      by_cases h0 : code = 0
      · by_cases hg : goodC v.k v.f v.h v.r v.v v.x = 0
        · exact quiet_kind n l who kind value v m l' ws code hc w hq h0 hg hk
        · exact quiet_word n l who kind value v m l' ws code hc w hq h0 _ rfl hg
      · exact quiet_code n l who kind value v m l' ws code hc w hq h0
end Go.Proofs.Ytmmgaonlmpajbaa
