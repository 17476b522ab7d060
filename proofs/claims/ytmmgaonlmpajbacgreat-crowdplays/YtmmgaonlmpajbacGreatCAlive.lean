/-
  That the landed package crowd answers at all (alive, at the three places that ask it).
-/
import Derived.Test.YtmmgaonlmpajbacGreatCPl
namespace Go.Proofs.YtmmgaonlmpajbacGreat
open Go.RowKit

def act7 : Ac := ⟨1, 0, 0, 7, ⟨0, 0, 0, 0, 0, 0⟩, fun _ => 0⟩
theorem alive_rep : (doC (newC (-1)) act7).2 = rcells 0 6 fun _ => 0 := by kernel_rfl
theorem alive_net : (doC (newC (-1)) act7).1.net.length = 6 := by kernel_rfl
theorem alive_step : ((doC (newC (-1)) act7).1.nd 0).step = 1 := by kernel_rfl
theorem field_step (n : NI) (W : World) : Sem.run Tryz.prog (Instr.field 50 (.agg n.cells) 2) W = .ok (.int .i64 n.step) W := by show _ = _; kernel_rfl
theorem field_settled (n : NI) (W : World) : Sem.run Tryz.prog (Instr.field 50 (.agg n.cells) 9) W = .ok (.agg (four n.settled)) W := by show _ = _; kernel_rfl

set_option maxRecDepth 100000 in
set_option maxHeartbeats 4000000 in
theorem lalive_any (w : World) : Calls Tryz.prog 6 #[] w fun e w' => e = .returned (.bool true) ∧ Below w.heap.size w w' := by
  have G := do_good (newC_good (liar := -1) (by omega)) act7
  have hD : ∀ W q nt, CwAt W w.heap.size 62 (newC (-1)) q nt → Calls Tryz.prog 7 #[.pointer (some ⟨w.heap.size, 0, none⟩), .agg (acArr act7)] W (Did W w.heap.size nt (doC (newC (-1)) act7).1 (rcells 0 6 fun _ => 0)) := fun W q nt hW => by
    have := do_any (newC_good (liar := -1) (by omega)) hW act7
    rwa [alive_rep] at this
  have hN := alive_net
  have hS := alive_step
  generalize (doC (newC (-1)) act7).1 = c at G hD hN hS
  have HD : Hid _ := hD
  have HN : Hid _ := hN
  have HS : Hid _ := hS
  have hi := info_rep 0 6 fun _ => 0
  have ho := one_rep 0 6 fun _ => 0
  have hf := field_step
  have hql := (G.nd 0 (by omega)).good.qlen
  clear hD hN hS
  go_enter Tryz.func6, Tryz.ntmps6
  go_wp2_with (first
    | (go_at_call 4; refine (new_good (-1) (by omega) _).mono ?_; rintro e w1 ⟨rfl, H1, L1⟩)
    | (go_at_call 7; refine (HD.out w1 _ _ H1).mono ?_; rintro e w2 ⟨rfl, q2, nt2, H2, T2, N2⟩; have L2 : Below w.heap.size w w2 := bel_seq L1 (T2.bel (Nat.le_refl _) (fun k hk => by cases hk) L1.size); have Z2 : Blk (w2.alloc (.cells zR 33)) w2.heap.size zR 33 := Blk.new w2 _ _; have La : Below w2.heap.size w2 (w2.alloc (.cells zR 33)) := (by go_grown))
    | (refine wpList_store_blk rfl 33 _ _ rfl w2.heap.size zR (rcells 0 6 fun _ => 0) 33 rfl rfl Z2 rfl hi ho ?_; rintro w3 B3 K3; have L3 := K3.bel _ _ (Nat.le_refl _) La; have H3 := H2.keep L3; have e0 := B3.cell 0; have e1 := B3.cell 1; rw [show (rcells 0 6 fun _ => 0)[0]? = some (.int .i64 0) from rfl] at e0; rw [show (rcells 0 6 fun _ => 0)[1]? = some (.int .i64 6) from rfl] at e1)
    | (go_at_call 12; refine (net_any H3 G.net).mono ?_; rintro e w4 ⟨nt4, rfl, hown4, L4⟩; have H4 := H3.keep L4; obtain ⟨na, nc, hnv⟩ := own_shape hown4; rw [HN.out] at hnv; subst hnv)
    | (go_at_call 10; refine (node_any H4 0 (by omega) hql).mono ?_; rintro e w5 ⟨q5, rfl, hown5, L5⟩; have hst : ((c.nd 0).ni q5).step = 1 := (by show ((c.nd 0).step : Int) = 1; rw [HS.out]; rfl))
    | fail)
  go_ret
  exact ⟨rfl, bel_trans (bel_trans (bel_trans L2 L3) L4) L5⟩

end Go.Proofs.YtmmgaonlmpajbacGreat
