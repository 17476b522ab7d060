/-
  The landed package crowd: deliver, drop, lie, read.
-/
import Derived.Test.YtmmgaonlmpajbacGreatCTurn
import Derived.Test.YtmmgaonlmpajbacGreatCTake
import Derived.Test.YtmmgaonlmpajbacGreatCNet
namespace Go.Proofs.YtmmgaonlmpajbacGreat
open Go.RowKit

/-! ### Plain -/
/-- A crowd of good nodes. -/
structure CG (c : Cw) : Prop where
  nd : ∀ i, i < 4 → Whole (c.nd i)
  net : c.net.length ≤ 2000
  dest : ∀ x, x ∈ c.net → x.1 < 4
  acts : c.acts ≤ 600
  liar : -1 ≤ c.liar ∧ c.liar ≤ 3
/-- What a word comes to at a node. -/
def hearC (c : Cw) (i : Nat) (v : Wd) : Cw × Array Value :=
  if goodC v.k v.f v.h v.r v.v v.x = 0 then (c.did i (hearN i (c.nd i) v), rcells 0 (((sendAll i (hearN i (c.nd i) v).words c.net).length : Int) - (c.net.length : Int)) fun _ => 0)
  else (c, refused (goodC v.k v.f v.h v.r v.v v.x))

/-! ### turn, of a word -/
theorem turn_hears {w : World} {g : Nat} {c : Cw} {q : Nat → Value} {nt : Value} (G : CG c) (H : CwAt w g 62 c q nt) (i : Nat) (hi : i < 4) (v : Wd) (b : Nat) (hb : Blk w b (wdArr v) 36) :
    Calls Tryz.prog 17 #[.pointer (some ⟨g, 0, none⟩), .int .i64 (i : Int), .func (.func 55) #[] #[.pointer (some ⟨b, 0, none⟩)]] w (Did w g nt (hearC c i v).1 (hearC c i v).2) := by
  unfold hearC
  by_cases gv : goodC v.k v.f v.h v.r v.v v.x = 0
  · rw [if_pos gv]
    have hw := hear_whole (G.nd i hi) i gv
    exact turn_hear_yes H i hi b v hb _ hw.2 G.net (fun W hW => hear_yes (G.nd i hi).good (G.nd i hi).beyond hi gv _ W hW)
  · rw [if_neg gv]
    refine (turn_hear_no H i hi b v hb _ gv (fun W hW => hear_no (G.nd i hi).good hi rfl gv _ W hW)).mono ?_
    rintro e w' ⟨rfl, L⟩
    exact ⟨rfl, q, nt, H.keep L, Touch.below L, Next.refl _ _⟩

/-! ### deliver -/
def leArr (x : Nat × Wd) : Array Value := #[.int .i64 (x.1 : Int), .int .i64 x.2.k, .int .i64 x.2.f, .int .i64 x.2.h, .int .i64 x.2.r, .int .i64 x.2.v, .int .i64 x.2.x]
theorem le_range {W : World} {net : List (Nat × Wd)} {g cap base : Nat} (hn : W.ownsRow base 79 7 (.slice (some ⟨g, 0, none⟩) net.length cap) net.length (lesCells net)) {k : Nat} {x : Nat × Wd} (hx : net[k]? = some x) : W.rangeAt g (k * 7) (leArr x).toList := by
  intro j u hu
  have hj : j < 7 := by
    by_cases hlt : j < 7
    · exact hlt
    · rw [List.getElem?_eq_none (by show (leArr x).toList.length ≤ j; simp [leArr]; omega)] at hu; cases hu
  have h1 := hn.cells (g := g) rfl (k * 7 + j) u (by rw [les_at net k x hx j hj]; exact hu)
  rw [Addr.add_mid, Nat.zero_add] at h1
  exact h1
theorem info_leArr (x : Nat × Wd) : (Tryz.prog.info? 79).map (·.size) = some (leArr x).size := by show _ = some 7; kernel_rfl
theorem one_leArr (x : Nat × Wd) : (leArr x).all (·.oneCell') = true := by show _ = _; kernel_rfl
theorem letter_word {W : World} {b : Nat} {x : Nat × Wd} {t : TypeId} (B : Blk W b (leArr x) t) : W.rangeAt b 1 (wdArr x.2).toList := by
  intro j u hu
  have hj : j < 6 := by
    by_cases hlt : j < 6
    · exact hlt
    · rw [List.getElem?_eq_none (by show (wdArr x.2).toList.length ≤ j; simp [wdArr]; omega)] at hu; cases hu
  rw [B.cell]
  have : j = 0 ∨ j = 1 ∨ j = 2 ∨ j = 3 ∨ j = 4 ∨ j = 5 := by omega
  rcases this with rfl | rfl | rfl | rfl | rfl | rfl <;> simpa [leArr, wdArr] using hu
theorem own_at {W : World} {base : Nat} {e : TypeId} {size : Nat} {v : Value} {n : Nat} {xs : List Value} (h : W.ownsRow base e size v n xs) (hn : 0 < n) : ∃ g cap, v = .slice (some ⟨g, 0, none⟩) n cap ∧ g < W.heap.size := by
  rcases h.2 with ⟨_, h0⟩ | ⟨g, cap, cur, hv, _, hh, _⟩
  · omega
  · exact ⟨g, cap, hv, Blk.lt (show Blk W g cur e from hh)⟩

theorem hearC_rep (c : Cw) (i : Nat) (v : Wd) : ∃ code n, (hearC c i v).2 = rcells code n fun _ => 0 := by
  unfold hearC
  split
  · exact ⟨_, _, rfl⟩
  · exact ⟨_, _, rfl⟩
def deliverC (c : Cw) (n : Int) : Cw × Array Value :=
  match c.net[n.toNat]? with
  | some x => if 0 ≤ n then hearC c x.1 x.2 else (c, refused 4)
  | none => (c, refused 4)
theorem letter_no {c : Cw} {n : Int} (h : win n 0 ((c.net.length : Int) - 1) = false) : 0 ≤ n → c.net[n.toNat]? = none := fun h0 => by
  refine List.getElem?_eq_none ?_
  have : ¬ (0 ≤ n ∧ n ≤ (c.net.length : Int) - 1) := fun hh => by rw [win_iff.2 hh] at h; cases h
  omega

set_option maxRecDepth 100000 in
set_option maxHeartbeats 4000000 in
theorem deliver_no {w : World} {g : Nat} {c : Cw} {q : Nat → Value} {nt : Value} (G : CG c) (H : CwAt w g 62 c q nt) (n : Int) (hn : win n 0 ((c.net.length : Int) - 1) = false) :
    Calls Tryz.prog 19 #[.pointer (some ⟨g, 0, none⟩), .int .i64 n] w fun e w' => e = .returned (.agg (refused 4)) ∧ Below w.heap.size w w' := by
  have hi := info_rep 4 0 fun _ => 0
  have ho := one_rep 4 0 fun _ => 0
  have Z : Blk (w.alloc (.cells zR 33)) w.heap.size zR 33 := Blk.new w _ _
  have L0 : Below w.heap.size w (w.alloc (.cells zR 33)) := by go_grown
  have H0 := H.keep L0
  have hnet := G.net
  clear H G
  go_enter Tryz.func19, Tryz.ntmps19
  go_upto_region 1 with fail
  generalize (w.alloc (.cells zR 33)) = w0 at Z L0 H0 ⊢
  go_wp2_with (first
    | (go_at_call 36; refine (isLetter_any H0 hnet n).mono ?_; rw [hn]; rintro e w' ⟨rfl, hw'⟩; obtain rfl := hw'.symm)
    | (go_at_call 16; refine (crefuse_any 4 _).mono ?_; rintro e w2 ⟨rfl, L2⟩; have Z2 := Z.below L2)
    | (refine wpList_store_blk rfl 33 _ _ rfl w.heap.size zR (refused 4) 33 rfl rfl Z2 rfl hi ho ?_; rintro w3 B3 K3))
  exact bodyPost_ret (result_rep rfl _ _ w.heap.size _ _ _ rfl B3) rfl ⟨rfl, K3.bel _ _ (Nat.le_refl _) (bel_trans L0 L2)⟩

set_option maxRecDepth 100000 in
set_option maxHeartbeats 4000000 in
theorem deliver_yes {w : World} {g : Nat} {c : Cw} {q : Nat → Value} {nt : Value} (G : CG c) (H : CwAt w g 62 c q nt) (k : Nat) (x : Nat × Wd) (hx : c.net[k]? = some x) :
    Calls Tryz.prog 19 #[.pointer (some ⟨g, 0, none⟩), .int .i64 (k : Int)] w (Did w g nt (hearC c x.1 x.2).1 (hearC c x.1 x.2).2) := by
  have hk : k < c.net.length := by
    by_cases hlt : k < c.net.length
    · exact hlt
    · rw [List.getElem?_eq_none (by omega)] at hx; cases hx
  have hx4 : x.1 < 4 := G.dest x (List.mem_of_getElem? hx)
  obtain ⟨code, nn, hrep⟩ := hearC_rep c x.1 x.2
  have hT : ∀ W q nt b, CwAt W g 62 c q nt → Blk W b (wdArr x.2) 36 → Calls Tryz.prog 17 #[.pointer (some ⟨g, 0, none⟩), .int .i64 (x.1 : Int), .func (.func 55) #[] #[.pointer (some ⟨b, 0, none⟩)]] W (Did W g nt (hearC c x.1 x.2).1 (hearC c x.1 x.2).2) := fun W q nt b hW hb => turn_hears G hW x.1 hx4 x.2 b hb
  rw [hrep] at hT ⊢
  generalize (hearC c x.1 x.2).1 = c' at hT ⊢
  have HT : Hid _ := hT
  clear hT hrep
  have hi := info_rep code nn fun _ => 0
  have ho := one_rep code nn fun _ => 0
  have hnet := G.net
  have hwin : win (k : Int) 0 ((c.net.length : Int) - 1) = true := win_iff.2 ⟨by omega, by omega⟩
  obtain ⟨nb, nc, hnv, hnb⟩ := own_at H.net (by omega)
  subst hnv
  have Z : Blk (w.alloc (.cells zR 33)) w.heap.size zR 33 := Blk.new w _ _
  have L0 : Below w.heap.size w (w.alloc (.cells zR 33)) := by go_grown
  have H0 := H.keep L0
  have hi7 := info_leArr x
  have ho7 := one_leArr x
  have hi6 : (Tryz.prog.info? 36).map (·.size) = some (wdArr x.2).size := by show _ = some 6; kernel_rfl
  have hgw := H.blk.lt
  have hklt : (k : Int) < (c.net.length : Int) := by omega
  clear H
  go_enter Tryz.func19, Tryz.ntmps19
  go_upto_region 1 with fail
  generalize (w.alloc (.cells zR 33)) = w0 at Z L0 H0 ⊢
  have hr := le_range H0.net hx
  have c0 := H0.slice
  have hs0 := L0.size
  have N1 : Blk (w0.alloc (.cells #[.int .i64 0, .int .i64 0, .int .i64 0, .int .i64 0, .int .i64 0, .int .i64 0, .int .i64 0] 79)) w0.heap.size #[.int .i64 0, .int .i64 0, .int .i64 0, .int .i64 0, .int .i64 0, .int .i64 0, .int .i64 0] 79 := Blk.new w0 _ _
  have La : Below w0.heap.size w0 (w0.alloc (.cells #[.int .i64 0, .int .i64 0, .int .i64 0, .int .i64 0, .int .i64 0, .int .i64 0, .int .i64 0] 79)) := by go_grown
  go_upto_region 4 with (first
    | (go_at_call 36; refine (isLetter_any H0 hnet (k : Int)).mono ?_; rw [hwin]; rintro e w' ⟨rfl, hw'⟩; obtain rfl := hw'.symm)
    | (refine wpList_load_part (by rfl) 79 _ rfl nb (k * 7) (by first | rfl | simp) (leArr x) _ hr Tryz.underlying79 rfl hi7 ?_)
    | (refine wpList_store_blk rfl 79 _ _ rfl w0.heap.size _ (leArr x) 79 rfl rfl N1 rfl hi7 ho7 ?_; rintro w1 B1 K1; have L1 := K1.bel _ _ (Nat.le_refl _) La; have Z1 := Z.below L1; have H1 := H0.keep L1))
  have hzlt := Z.lt
  clear hr c0 N1 La K1 Z H0
  refine held_region (fun W => Blk W w0.heap.size (leArr x) 79) [] [(0, 0), (1, 0), (2, 1), (3, 0), (4, 1), (5, 2), (6, 2), (7, 2)] (by kernel_rfl) (by kernel_rfl) (by kernel_rfl) rfl (fun _ _ d _ _ h => by cases d <;> exact h) B1.drew ?_
  repeat (first
    | (refine ord_run0_ex rfl (by rfl) ?_
       apply Exists.intro
       refine ⟨fun w0 => ?_, ?_⟩
       · go_simp; rfl
       simp only [Act.put, List.setIfInBounds_toArray, List.set_cons_zero, List.set_cons_succ])
    | (refine ord_load rfl (by rfl) 36 _ rfl w0.heap.size 1 rfl (wdArr x.2) _ (fun W H => letter_word H) Tryz.underlying36 rfl hi6 ?_; simp only [Act.put, List.setIfInBounds_toArray, List.set_cons_zero, List.set_cons_succ])
    | (refine ord_run1_ex rfl (by rfl) ?_
       apply Exists.intro
       refine ⟨fun w0 hC => ?_, ?_⟩
       · have e0 := hC.cell 0; rw [show (leArr x)[0]? = some (.int .i64 (x.1 : Int)) from rfl] at e0; clear hC; go_simp; rfl
       simp only [Act.put, List.setIfInBounds_toArray, List.set_cons_zero, List.set_cons_succ]))
  refine ord_call_ex rfl (by rfl) ⟨37, #[.agg (wdArr x.2)], by go_simp, (hears_any x.2 _).mono ?_⟩
  rintro e w2 ⟨rfl, hw2⟩
  have Lw : Below w1.heap.size w1 w2 := by rw [hw2]; exact Below.alloc (below_drew' (Below.refl _ w1)) (Nat.le_refl _) _
  have Bw : Blk w2 w1.drew.heap.size (wdArr x.2) 36 := by rw [hw2]; exact Blk.new _ _ _
  clear hw2
  have B2 := B1.below Lw
  have H2 := H1.keep Lw
  have Z2 := Z1.below Lw
  refine ⟨_, rfl, fun _ => B2, ?_⟩
  simp only [Act.put, List.setIfInBounds_toArray, List.set_cons_zero, List.set_cons_succ]
  refine ord_call_ex rfl (by rfl) ⟨17, #[.pointer (some ⟨g, 0, none⟩), .int .i64 (x.1 : Int), .func (.func 55) #[] #[.pointer (some ⟨w1.drew.heap.size, 0, none⟩)]], by go_simp, (HT.out w2 q _ w1.drew.heap.size H2 Bw).mono ?_⟩
  rintro e w3 ⟨rfl, q', nt', C3, T3, N3⟩
  have B3 : Blk w3 w0.heap.size (leArr x) 79 := by
    unfold Blk
    rw [T3.block _ B2.lt (by omega) (fun e => by have e' : some nb = some w0.heap.size := e; injection e' with e'; omega)]
    exact B2
  have Z3 := T3.blk H2.blk H2.net Z2 (by decide) (by decide)
  refine ⟨_, rfl, fun _ => B3, ?_⟩
  simp only [Act.put, List.setIfInBounds_toArray, List.set_cons_zero, List.set_cons_succ]
  refine ord_do rfl ?_
  refine wpList_store_blk rfl 33 _ _ rfl w.heap.size zR (rcells code nn fun _ => 0) 33 rfl rfl Z3 rfl hi ho ?_
  rintro w4 B4 K4
  refine ⟨fun _ => K4.blk _ _ _ (by omega) B3, ?_⟩
  show wpOrd _ _ _ _ _ [] _ _ _
  unfold wpOrd
  go_wp2
  exact bodyPost_ret (result_rep rfl _ _ w.heap.size _ _ _ rfl B4) rfl ⟨rfl, q', nt', C3.kept K4 Z3 (by decide) (by decide) (by decide), ((Touch.below (bel_trans (bel_trans L0 L1) Lw)).trans T3 (Next.refl _ _)).more (K4.bel _ _ (Nat.le_refl _) (Below.refl _ _)) (Nat.le_refl _), (Next.refl _ w).trans N3 (by have := L1.size; have := Lw.size; omega)⟩

theorem deliver_any {w : World} {g : Nat} {c : Cw} {q : Nat → Value} {nt : Value} (G : CG c) (H : CwAt w g 62 c q nt) (n : Int) :
    Calls Tryz.prog 19 #[.pointer (some ⟨g, 0, none⟩), .int .i64 n] w (Did w g nt (deliverC c n).1 (deliverC c n).2) := by
  cases hn : win n 0 ((c.net.length : Int) - 1)
  · have e : deliverC c n = (c, refused 4) := by
      unfold deliverC
      by_cases h0 : 0 ≤ n
      · rw [letter_no hn h0]
      · split
        · rw [if_neg h0]
        · rfl
    rw [e]
    refine (deliver_no G H n hn).mono ?_
    rintro e w' ⟨rfl, L⟩
    exact ⟨rfl, q, nt, H.keep L, Touch.below L, Next.refl _ _⟩
  · have hn' := win_iff.1 hn
    have hk : n.toNat < c.net.length := by omega
    have hx : c.net[n.toNat]? = some c.net[n.toNat] := List.getElem?_eq_getElem hk
    have e : deliverC c n = hearC c c.net[n.toNat].1 c.net[n.toNat].2 := by
      unfold deliverC
      rw [hx]
      exact if_pos hn'.1
    rw [e]
    have h1 := deliver_yes G H n.toNat _ hx
    rw [show (n.toNat : Int) = n by omega] at h1
    exact h1

/-! ### drop -/
def dropC (c : Cw) (n : Int) : Cw × Array Value := if win n 0 ((c.net.length : Int) - 1) = true then ({ c with net := c.net.eraseIdx n.toNat }, rcells 0 0 fun _ => 0) else (c, refused 4)

set_option maxRecDepth 100000 in
set_option maxHeartbeats 4000000 in
theorem drop_no {w : World} {g : Nat} {c : Cw} {q : Nat → Value} {nt : Value} (G : CG c) (H : CwAt w g 62 c q nt) (n : Int) (hn : win n 0 ((c.net.length : Int) - 1) = false) :
    Calls Tryz.prog 20 #[.pointer (some ⟨g, 0, none⟩), .int .i64 n] w fun e w' => e = .returned (.agg (refused 4)) ∧ Below w.heap.size w w' := by
  have hi := info_rep 4 0 fun _ => 0
  have ho := one_rep 4 0 fun _ => 0
  have Z : Blk (w.alloc (.cells zR 33)) w.heap.size zR 33 := Blk.new w _ _
  have L0 : Below w.heap.size w (w.alloc (.cells zR 33)) := by go_grown
  have H0 := H.keep L0
  have hnet := G.net
  clear H G
  go_enter Tryz.func20, Tryz.ntmps20
  go_upto_region 1 with fail
  generalize (w.alloc (.cells zR 33)) = w0 at Z L0 H0 ⊢
  go_wp2_with (first
    | (go_at_call 36; refine (isLetter_any H0 hnet n).mono ?_; rw [hn]; rintro e w' ⟨rfl, hw'⟩; obtain rfl := hw'.symm)
    | (go_at_call 16; refine (crefuse_any 4 _).mono ?_; rintro e w2 ⟨rfl, L2⟩; have Z2 := Z.below L2)
    | (refine wpList_store_blk rfl 33 _ _ rfl w.heap.size zR (refused 4) 33 rfl rfl Z2 rfl hi ho ?_; rintro w3 B3 K3))
  exact bodyPost_ret (result_rep rfl _ _ w.heap.size _ _ _ rfl B3) rfl ⟨rfl, K3.bel _ _ (Nat.le_refl _) (bel_trans L0 L2)⟩

set_option maxRecDepth 100000 in
set_option maxHeartbeats 4000000 in
theorem drop_yes {w : World} {g : Nat} {c : Cw} {q : Nat → Value} {nt : Value} (G : CG c) (H : CwAt w g 62 c q nt) (x k : Nat) (hlen : c.net.length = x + 1 + k) :
    Calls Tryz.prog 20 #[.pointer (some ⟨g, 0, none⟩), .int .i64 (x : Int)] w (Did w g nt { c with net := c.net.eraseIdx x } (rcells 0 0 fun _ => 0)) := by
  have hi := info_rep 0 0 fun _ => 0
  have ho := one_rep 0 0 fun _ => 0
  have hnet := G.net
  have hwin : win (x : Int) 0 ((c.net.length : Int) - 1) = true := win_iff.2 ⟨by omega, by omega⟩
  obtain ⟨nb, nc, hnv, hnb⟩ := own_at H.net (by omega)
  subst hnv
  have Z : Blk (w.alloc (.cells zR 33)) w.heap.size zR 33 := Blk.new w _ _
  have L0 : Below w.heap.size w (w.alloc (.cells zR 33)) := by go_grown
  have H0 := H.keep L0
  have hx20 : (x : Int) ≤ 2000 := by omega
  have hle : (c.net.eraseIdx x).length = x + k := by rw [List.length_eraseIdx, hlen, if_pos (by omega)]; omega
  have HL : Hid (c.net.length = x + 1 + k) := hlen
  have HE : Hid ((c.net.eraseIdx x).length = x + k) := hle
  have hxk : x + 1 + k ≤ 2000 := by omega
  clear H hlen hle
  go_enter Tryz.func20, Tryz.ntmps20
  go_upto_region 1 with fail
  generalize (w.alloc (.cells zR 33)) = w0 at Z L0 H0 ⊢
  have c0 := H0.slice
  have hN := H0.net
  rw [HL.out] at c0 hN
  have hdel := deleteL_any c.net nb nc x k w0 HL.out hN hxk
  rw [show ((x + 1 : Nat) : Int) = (x : Int) + 1 by omega] at hdel
  go_wp2_with (first
    | (go_at_call 36; refine (isLetter_any H0 hnet (x : Int)).mono ?_; rw [hwin]; rintro e w' ⟨rfl, hw'⟩; obtain rfl := hw'.symm)
    | (go_at_call 38; refine hdel.mono ?_; clear hdel; rintro e w2 ⟨rfl, hown, hgrow⟩; have T2 : Touch g (.slice (some ⟨nb, 0, none⟩) c.net.length nc) w0 w2 := Touch.grownN hgrow; have B2 := blk_grown H0.blk hgrow (fun h => own_not H0.blk H0.net (by decide) h.symm); have e2 := B2.cell 1128; have f2 := B2.free 1128; rw [ccells_nt] at e2; have Z2 := T2.blk H0.blk H0.net Z (by decide) (by decide); have B3 := B2.setCell 1128 (.slice (some ⟨nb, 0, none⟩) (x + k) nc); rw [ccells_set_nt] at B3)
    | (refine wpList_store_blk rfl 33 _ _ rfl w.heap.size zR (rcells 0 0 fun _ => 0) 33 rfl rfl (Z2.setCell_other _ _ (by show w.heap.size ≠ g; exact fun e => blk_ne Z2 B2 (by decide) e)) rfl hi ho ?_; rintro w4 B4 K4))
  have Z3 := Z2.setCell_other ⟨g, 1128, none⟩ (.slice (some ⟨nb, 0, none⟩) (x + k) nc) (by show w.heap.size ≠ g; exact fun e => blk_ne Z2 B2 (by decide) e)
  have T3 : Touch g (.slice (some ⟨nb, 0, none⟩) c.net.length nc) w0 (w2.setCell ⟨g, 1128, none⟩ (.slice (some ⟨nb, 0, none⟩) (x + k) nc)) := T2.trans (Touch.grownB (grown_setCell w2 g 1128 _)) (Next.refl _ _)
  have C3 : CwAt (w2.setCell ⟨g, 1128, none⟩ (.slice (some ⟨nb, 0, none⟩) (x + k) nc)) g 62 { c with net := c.net.eraseIdx x } q (.slice (some ⟨nb, 0, none⟩) (x + k) nc) := by
    refine ⟨B3, fun i hi => T3.own H0.blk H0.net (H0.que i hi) (by decide) (by decide), ?_⟩
    show World.ownsRow _ _ _ _ _ (c.net.eraseIdx x).length _
    rw [HE.out]
    exact hown.kept (grown_setCell w2 g 1128 _) (Or.inr (own_not B2 hown (by decide)))
  exact bodyPost_ret (result_rep rfl _ _ w.heap.size _ _ _ rfl B4) rfl ⟨rfl, q, _, C3.kept K4 Z3 (by decide) (by decide) (by decide), ((Touch.below L0).trans T3 (Next.refl _ _)).more (K4.bel _ _ (Nat.le_refl _) (Below.refl _ _)) (Nat.le_refl _), Or.inl rfl⟩

theorem drop_any {w : World} {g : Nat} {c : Cw} {q : Nat → Value} {nt : Value} (G : CG c) (H : CwAt w g 62 c q nt) (n : Int) :
    Calls Tryz.prog 20 #[.pointer (some ⟨g, 0, none⟩), .int .i64 n] w (Did w g nt (dropC c n).1 (dropC c n).2) := by
  unfold dropC
  cases hn : win n 0 ((c.net.length : Int) - 1)
  · rw [if_neg (by simp)]
    refine (drop_no G H n hn).mono ?_
    rintro e w' ⟨rfl, L⟩
    exact ⟨rfl, q, nt, H.keep L, Touch.below L, Next.refl _ _⟩
  · rw [if_pos rfl]
    have hn' := win_iff.1 hn
    have h1 := drop_yes G H n.toNat (c.net.length - 1 - n.toNat) (by omega)
    rw [show (n.toNat : Int) = n by omega] at h1
    exact h1

/-! ### lie -/
def lieC (c : Cw) (i : Int) (v : Wd) : Cw × Array Value :=
  if goodC v.k v.f v.h v.r v.v v.x = 0 then (if v.f = c.liar then (if win i 0 3 = true then hearC c i.toNat v else (c, refused 2)) else (c, refused 6)) else (c, refused (goodC v.k v.f v.h v.r v.v v.x))

set_option maxRecDepth 100000 in
set_option maxHeartbeats 4000000 in
theorem lie_bad {w : World} {g : Nat} (i : Int) (v : Wd) (code : Int) (hc : goodC v.k v.f v.h v.r v.v v.x = code) (hne : code ≠ 0) :
    Calls Tryz.prog 22 #[.pointer (some ⟨g, 0, none⟩), .int .i64 i, .agg (wdArr v)] w fun e w' => e = .returned (.agg (refused code)) ∧ Below w.heap.size w w' := by
  have hi := info_rep code 0 fun _ => 0
  have ho := one_rep code 0 fun _ => 0
  have hi6 : (Tryz.prog.info? 36).map (·.size) = some (wdArr v).size := by show _ = some 6; kernel_rfl
  have V : Blk ((w.alloc (.cells (wdArr v) 36)).alloc (.cells zR 33)) w.heap.size (wdArr v) 36 := (Blk.new w _ _).alloc _
  have Z : Blk ((w.alloc (.cells (wdArr v) 36)).alloc (.cells zR 33)) (w.heap.size + 1) zR 33 := Blk.new1 w _ _ _
  have L0 : Below w.heap.size w ((w.alloc (.cells (wdArr v) 36)).alloc (.cells zR 33)) := by go_grown
  have hwg : ∀ W, Calls Tryz.prog 44 #[.agg (wdArr v)] W fun e w' => e = .returned (.int .i64 code) ∧ Below W.heap.size W w' := fun W => by have := good_any v.k v.f v.h v.r v.v v.x W; rwa [hc] at this
  have hc2 : (code != 0) = true := by simpa using hne
  clear hc hne
  go_enter Tryz.func22, Tryz.ntmps22
  go_upto_region 1 with fail
  generalize ((w.alloc (.cells (wdArr v) 36)).alloc (.cells zR 33)) = w0 at V Z L0 ⊢
  go_wp2_with (first
    | (refine wpList_load_blk rfl 36 _ rfl w.heap.size rfl 36 (wdArr v) _ V Tryz.underlying36 rfl hi6 ?_)
    | (go_at_call 44; refine (hwg _).mono ?_; rintro e w1 ⟨rfl, L1⟩; have Z1 := Z.below L1)
    | (go_at_call 16; refine (crefuse_any code _).mono ?_; rintro e w2 ⟨rfl, L2⟩; have Z2 := Z1.below L2)
    | (refine wpList_store_blk rfl 33 _ _ rfl (w.heap.size + 1) zR (refused code) 33 rfl rfl Z2 rfl hi ho ?_; rintro w3 B3 K3))
  exact bodyPost_ret (result_rep rfl _ _ (w.heap.size + 1) _ _ _ rfl B3) rfl ⟨rfl, K3.bel _ _ (by omega) (bel_trans (bel_trans L0 L1) L2)⟩

set_option maxRecDepth 100000 in
set_option maxHeartbeats 4000000 in
theorem lie_true {w : World} {g : Nat} {c : Cw} {q : Nat → Value} {nt : Value} (H : CwAt w g 62 c q nt) (i : Int) (v : Wd) (hc : goodC v.k v.f v.h v.r v.v v.x = 0) (hf : v.f ≠ c.liar) :
    Calls Tryz.prog 22 #[.pointer (some ⟨g, 0, none⟩), .int .i64 i, .agg (wdArr v)] w fun e w' => e = .returned (.agg (refused 6)) ∧ Below w.heap.size w w' := by
  have hi := info_rep 6 0 fun _ => 0
  have ho := one_rep 6 0 fun _ => 0
  have hi6 : (Tryz.prog.info? 36).map (·.size) = some (wdArr v).size := by show _ = some 6; kernel_rfl
  have V : Blk ((w.alloc (.cells (wdArr v) 36)).alloc (.cells zR 33)) w.heap.size (wdArr v) 36 := (Blk.new w _ _).alloc _
  have Z : Blk ((w.alloc (.cells (wdArr v) 36)).alloc (.cells zR 33)) (w.heap.size + 1) zR 33 := Blk.new1 w _ _ _
  have L0 : Below w.heap.size w ((w.alloc (.cells (wdArr v) 36)).alloc (.cells zR 33)) := by go_grown
  have hwg : ∀ W, Calls Tryz.prog 44 #[.agg (wdArr v)] W fun e w' => e = .returned (.int .i64 0) ∧ Below W.heap.size W w' := fun W => by have := good_any v.k v.f v.h v.r v.v v.x W; rwa [hc] at this
  have hf2 : (v.f != c.liar) = true := by simpa using hf
  have H0 := H.keep L0
  clear hc hf H
  go_enter Tryz.func22, Tryz.ntmps22
  go_upto_region 1 with fail
  generalize ((w.alloc (.cells (wdArr v) 36)).alloc (.cells zR 33)) = w0 at V Z L0 H0 ⊢
  go_wp2_with (first
    | (refine wpList_load_blk rfl 36 _ rfl w.heap.size rfl 36 (wdArr v) _ V Tryz.underlying36 rfl hi6 ?_)
    | (go_at_call 44; refine (hwg _).mono ?_; rintro e w1 ⟨rfl, L1⟩; have Z1 := Z.below L1; have e1 := (V.below L1).cell 1; rw [show (wdArr v)[1]? = some (.int .i64 v.f) from rfl] at e1; have e2 := (H0.keep L1).liar))
  go_quiet (fail)
  go_wp2_with (first
    | (go_at_call 16; refine (crefuse_any 6 _).mono ?_; rintro e w2 ⟨rfl, L2⟩; have Z2 := (Z1.drewN nq).below L2; have L12 : Below w1.heap.size w1 w2 := bel_seq (below_drewN' (Below.refl _ w1) nq) L2)
    | (refine wpList_store_blk rfl 33 _ _ rfl (w.heap.size + 1) zR (refused 6) 33 rfl rfl Z2 rfl hi ho ?_; rintro w3 B3 K3))
  exact bodyPost_ret (result_rep rfl _ _ (w.heap.size + 1) _ _ _ rfl B3) rfl ⟨rfl, K3.bel _ _ (by omega) (bel_trans (bel_trans L0 L1) L12)⟩

set_option maxRecDepth 100000 in
set_option maxHeartbeats 4000000 in
theorem lie_turn {w : World} {g : Nat} {c c' : Cw} {q : Nat → Value} {nt : Value} (H : CwAt w g 62 c q nt) (i : Int) (v : Wd) (hc : goodC v.k v.f v.h v.r v.v v.x = 0) (hf : v.f = c.liar) (code nn : Int)
    (hT : ∀ W q nt b, CwAt W g 62 c q nt → Blk W b (wdArr v) 36 → Calls Tryz.prog 17 #[.pointer (some ⟨g, 0, none⟩), .int .i64 i, .func (.func 55) #[] #[.pointer (some ⟨b, 0, none⟩)]] W (Did W g nt c' (rcells code nn fun _ => 0))) :
    Calls Tryz.prog 22 #[.pointer (some ⟨g, 0, none⟩), .int .i64 i, .agg (wdArr v)] w (Did w g nt c' (rcells code nn fun _ => 0)) := by
  have hi := info_rep code nn fun _ => 0
  have ho := one_rep code nn fun _ => 0
  have hi6 : (Tryz.prog.info? 36).map (·.size) = some (wdArr v).size := by show _ = some 6; kernel_rfl
  have V : Blk ((w.alloc (.cells (wdArr v) 36)).alloc (.cells zR 33)) w.heap.size (wdArr v) 36 := (Blk.new w _ _).alloc _
  have Z : Blk ((w.alloc (.cells (wdArr v) 36)).alloc (.cells zR 33)) (w.heap.size + 1) zR 33 := Blk.new1 w _ _ _
  have L0 : Below w.heap.size w ((w.alloc (.cells (wdArr v) 36)).alloc (.cells zR 33)) := by go_grown
  have hwg : ∀ W, Calls Tryz.prog 44 #[.agg (wdArr v)] W fun e w' => e = .returned (.int .i64 0) ∧ Below W.heap.size W w' := fun W => by have := good_any v.k v.f v.h v.r v.v v.x W; rwa [hc] at this
  have hf2 : (v.f != c.liar) = false := by simpa using hf
  have H0 := H.keep L0
  have HT : Hid _ := hT
  clear hc hf H hT
  go_enter Tryz.func22, Tryz.ntmps22
  go_upto_region 1 with fail
  generalize ((w.alloc (.cells (wdArr v) 36)).alloc (.cells zR 33)) = w0 at V Z L0 H0 ⊢
  go_wp2_with (first
    | (refine wpList_load_blk rfl 36 _ rfl w.heap.size rfl 36 (wdArr v) _ V Tryz.underlying36 rfl hi6 ?_)
    | (go_at_call 44; refine (hwg _).mono ?_; rintro e w1 ⟨rfl, L1⟩; have Z1 := Z.below L1; have V1 := V.below L1; have e1 := V1.cell 1; rw [show (wdArr v)[1]? = some (.int .i64 v.f) from rfl] at e1; have H1 := H0.keep L1; have e2 := H1.liar))
  go_quiet (fail)
  obtain ⟨w2, hw2⟩ : ∃ w2, w2 = w1.drewN nq := ⟨_, rfl⟩
  have L12 : Below w1.heap.size w1 w2 := by rw [hw2]; exact below_drewN' (Below.refl _ w1) nq
  have Z2 := Z1.below L12
  have V2 := V1.below L12
  have H2 := H1.keep L12
  rw [← hw2]
  clear hw2 e1 e2 Z1 V1 H1 hwg V Z H0
  go_wp2_with (first
    | (refine wpList_load_blk rfl 36 _ rfl w.heap.size rfl 36 (wdArr v) _ V2 Tryz.underlying36 rfl hi6 ?_)
    | (go_at_call 37; refine (hears_any v _).mono ?_; rintro e w3 ⟨rfl, hw3⟩; have L3 : Below w2.heap.size w2 w3 := (by rw [hw3]; exact Below.alloc (Below.refl _ w2) (Nat.le_refl _) _); have B3 : Blk w3 w2.heap.size (wdArr v) 36 := (by rw [hw3]; exact Blk.new _ _ _); clear hw3)
    | (go_at_call 17; refine (HT.out w3 q nt w2.heap.size (H2.keep L3) B3).mono ?_; rintro e w4 ⟨rfl, q', nt', C4, T4, N4⟩; have Z4 := T4.blk (H2.keep L3).blk (H2.keep L3).net (Z2.below L3) (by decide) (by decide))
    | (refine wpList_store_blk rfl 33 _ _ rfl (w.heap.size + 1) zR (rcells code nn fun _ => 0) 33 rfl rfl Z4 rfl hi ho ?_; rintro w5 B5 K5))
  exact bodyPost_ret (result_rep rfl _ _ (w.heap.size + 1) _ _ _ rfl B5) rfl ⟨rfl, q', nt', C4.kept K5 Z4 (by decide) (by decide) (by decide), ((Touch.below (bel_trans (bel_trans (bel_trans L0 L1) L12) L3)).trans T4 (Next.refl _ _)).more (K5.bel _ _ (Nat.le_refl _) (Below.refl _ _)) (by omega), (Next.refl _ w).trans N4 (by have := L0.size; have := L1.size; have := L12.size; have := L3.size; omega)⟩

theorem lie_any {w : World} {g : Nat} {c : Cw} {q : Nat → Value} {nt : Value} (G : CG c) (H : CwAt w g 62 c q nt) (i : Int) (v : Wd) :
    Calls Tryz.prog 22 #[.pointer (some ⟨g, 0, none⟩), .int .i64 i, .agg (wdArr v)] w (Did w g nt (lieC c i v).1 (lieC c i v).2) := by
  unfold lieC
  by_cases hc : goodC v.k v.f v.h v.r v.v v.x = 0
  · rw [if_pos hc]
    by_cases hf : v.f = c.liar
    · rw [if_pos hf]
      cases hi : win i 0 3
      · rw [if_neg (by simp)]
        refine lie_turn H i v hc hf 2 0 (fun W q nt b hW _ => (turn_range i hi g _ W).mono ?_)
        rintro e w' ⟨rfl, L⟩
        exact ⟨rfl, q, nt, hW.keep L, Touch.below L, Next.refl _ _⟩
      · rw [if_pos rfl]
        have hi' := win_iff.1 hi
        obtain ⟨code, nn, hrep⟩ := hearC_rep c i.toNat v
        have hT : ∀ W q nt b, CwAt W g 62 c q nt → Blk W b (wdArr v) 36 → Calls Tryz.prog 17 #[.pointer (some ⟨g, 0, none⟩), .int .i64 i, .func (.func 55) #[] #[.pointer (some ⟨b, 0, none⟩)]] W (Did W g nt (hearC c i.toNat v).1 (hearC c i.toNat v).2) := fun W q nt b hW hb => by
          have h1 := turn_hears G hW i.toNat (by omega) v b hb
          rw [show (i.toNat : Int) = i by omega] at h1
          exact h1
        rw [hrep] at hT ⊢
        exact lie_turn H i v hc hf code nn hT
    · rw [if_neg hf]
      refine (lie_true H i v hc hf).mono ?_
      rintro e w' ⟨rfl, L⟩
      exact ⟨rfl, q, nt, H.keep L, Touch.below L, Next.refl _ _⟩
  · rw [if_neg hc]
    refine (lie_bad i v _ rfl hc).mono ?_
    rintro e w' ⟨rfl, L⟩
    exact ⟨rfl, q, nt, H.keep L, Touch.below L, Next.refl _ _⟩
end Go.Proofs.YtmmgaonlmpajbacGreat
