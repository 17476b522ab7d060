/-
  The statement TopRefused.
-/
import Derived.Test.YtmmgaonlmpajbacTwo
import Derived.Test.YtmmgaonlmpajbacClientsLaw
namespace Go.Proofs.Ytmmgaonlmpajbac
open Go.RowKit

/-- An act that is refused, or only reads, changes nothing. -/
theorem refused_plain (c : Cw) (a : Ac) : ∃ code m f, (doC c a).2 = rcells code m f ∧ ((code = 0 ∧ a.kind ≠ 6) ∨ (m = 0 ∧ (∀ i, (doC c a).1.nd i = c.nd i) ∧ (doC c a).1.net = c.net)) := by
  have hno : ∀ (d : Cw) (r : Int), d.nd = c.nd → d.net = c.net → ∃ code m f, (d, refused r).2 = rcells code m f ∧ ((code = 0 ∧ a.kind ≠ 6) ∨ (m = 0 ∧ (∀ i, (d, refused r).1.nd i = c.nd i) ∧ (d, refused r).1.net = c.net)) := fun d r h1 h2 => ⟨r, 0, fun _ => 0, rfl, Or.inr ⟨rfl, fun i => by rw [← h1], h2⟩⟩
  have hyes : ∀ (d : Cw) (m : Int), a.kind ≠ 6 → ∃ code m' f, (d, rcells 0 m fun _ => 0).2 = rcells code m' f ∧ ((code = 0 ∧ a.kind ≠ 6) ∨ (m' = 0 ∧ (∀ i, (d, rcells 0 m fun _ => 0).1.nd i = c.nd i) ∧ (d, rcells 0 m fun _ => 0).1.net = c.net)) := fun d m h6 => ⟨0, m, fun _ => 0, rfl, Or.inl ⟨rfl, h6⟩⟩
  have hh : ∀ (i : Nat) (v : Wd), a.kind ≠ 6 → ∃ code m f, (hearC c.more i v).2 = rcells code m f ∧ ((code = 0 ∧ a.kind ≠ 6) ∨ (m = 0 ∧ (∀ k, (hearC c.more i v).1.nd k = c.nd k) ∧ (hearC c.more i v).1.net = c.net)) := fun i v h6 => by
    unfold hearC
    split
    · exact hyes _ _ h6
    · exact hno _ _ rfl rfl
  unfold doC
  split
  · exact hno _ _ rfl rfl
  · split
    · rename_i hk
      unfold subC
      split
      · split
        · unfold didRep; exact hyes _ _ (by omega)
        · exact hno _ _ rfl rfl
      · exact hno _ _ rfl rfl
    · split
      · rename_i hk
        unfold deliverC
        split
        · split
          · exact hh _ _ (by omega)
          · exact hno _ _ rfl rfl
        · exact hno _ _ rfl rfl
      · split
        · rename_i hk
          unfold dropC
          split
          · exact hyes _ _ (by omega)
          · exact hno _ _ rfl rfl
        · split
          · rename_i hk
            unfold timeC
            split
            · unfold didRep; exact hyes _ _ (by omega)
            · exact hno _ _ rfl rfl
          · split
            · rename_i hk
              unfold lieC
              split
              · split
                · split
                  · exact hh _ _ (by omega)
                  · exact hno _ _ rfl rfl
                · exact hno _ _ rfl rfl
              · exact hno _ _ rfl rfl
            · split
              · unfold readC; exact ⟨0, 0, takeV (toldC c.more (a.n != 0) a.tell), rfl, Or.inr ⟨rfl, fun _ => rfl, rfl⟩⟩
              · exact hno _ _ rfl rfl

set_option maxRecDepth 100000 in
set_option maxHeartbeats 8000000 in
theorem topRefused_any (n : Int) (l : List Ac) (s : Value) (a : Ac) (w : World) (hs : ActsAt w s l) (hlen : l.length < 4611686018427387904) :
    Calls Try.prog 3 #[.int .i64 n, s, .agg (acArr a)] w fun e w' => e = .returned (.bool true) ∧ Below w.heap.size w w' := by
  have hl := liesV_bd n
  have G := playC_good hl l (most l)
  have hplay := fun W (hW : ActsAt W s l) => play_gen 10 #[] (liesV n) hl l s W W (fun _ _ => True) (fun W' hW' => hW.keep hW') hlen (Below.refl _ _) trivial (looks_quiet _ l W)
  generalize playC (liesV n) l (most l) = c at hplay G
  have hd1 := fun W g q nt (hW : CwAt W g 70 c q nt) => do_any G hW a
  obtain ⟨code, m, f, r1, hcase⟩ := refused_plain c a
  rw [r1] at hd1
  have G1 := do_good G a
  have hq1 : ∀ i, i < 4 → (((doC c a).1).nd i).queue.length ≤ 6 := fun i hi => (G1.nd i hi).good.qlen
  have hn1 : ((doC c a).1).net.length ≤ 2000 := G1.net
  generalize (doC c a).1 = c1 at hd1 hcase hq1 hn1
  have HCA : Hid _ := hcase
  have HQN : Hid (c1.net.length ≤ 2000 ∧ ∀ i, i < 4 → (c1.nd i).queue.length ≤ 6) := ⟨hn1, hq1⟩
  clear hcase r1 G1 hq1 hn1 G
  have hia : (Try.prog.info? 27).map (·.size) = some (acArr a).size := by show _ = some 14; kernel_rfl
  have HP : Hid _ := hplay
  have HD1 : Hid _ := hd1
  have hi := info_rep code m f
  have ho := one_rep code m f
  clear hplay hd1
  obtain ⟨sa, sc, hsv⟩ := hs.len
  subst hsv
  have A0 : Blk (w.alloc (.cells (acArr a) 27)) w.heap.size (acArr a) 27 := Blk.new w _ _
  have L0 : Below w.heap.size w (w.alloc (.cells (acArr a) 27)) := by go_grown
  have HS : Hid (ActsAt (w.alloc (.cells (acArr a) 27)) (.slice sa l.length sc) l) := hs.keep L0
  clear hs
  have HK : Hid ((acArr a)[0]? = some (.int .i64 a.kind)) := show _ = _ from rfl
  generalize acArr a = A at *
  go_enter Try.func3, Try.ntmps3
  go_upto_region 1 with fail
  generalize (w.alloc (.cells A 27)) = w0 at A0 L0 HS ⊢
  go_upto_region 2 with (first
    | (go_at_call 9; refine (lies_any n _).mono ?_; rintro e w' ⟨rfl, hw'⟩; obtain rfl := hw'.symm)
    | (go_at_call 8; refine (HP.out w0 HS.out).mono ?_; rintro e w1 ⟨g1, q1, nt1, rfl, hg1, H1, hnt1, _, hsz1, hB1⟩))
  have HS1 : Hid (ActsAt w1 (.slice sa l.length sc) l) := HS.out.keep hB1
  go_upto_region 5 with (first
    | (go_at_call 9; refine (lies_any n _).mono ?_; rintro e w' ⟨rfl, hw'⟩; obtain rfl := hw'.symm)
    | (go_at_call 8; refine (HP.out w1 HS1.out).mono ?_; rintro e w2 ⟨g2, q2, nt2, rfl, hg2, H2, hnt2, _, hsz2, hB2⟩))
  have T2 := two_of H1 H2 hB2 hg2 hnt2
  have L2 := bel_trans (bel_trans L0 hB1) hB2
  have A2 := (A0.below hB1).below hB2
  have hs0 := L0.size
  have b1 : w.heap.size ≤ g1 := by omega
  have b2 : ∀ b, nt1.ownBlock = some b → w.heap.size ≤ b := fun b hb => by have := hnt1 b hb; omega
  clear H1 H2 HS HS1 HP hnt1 hnt2 hB1 hB2 hg1 hg2 A0 L0
  have d3 := HD1.out w2 g1 q1 nt1 T2.one
  go_upto_region 6 with (first
    | (refine wpList_load_part (by rfl) 27 _ rfl w.heap.size 0 rfl A _ A2.range Try.underlying27 rfl hia ?_)
    | (go_at_call 11; refine d3.mono ?_; clear d3; rintro e w3 ⟨rfl, q3, nt3, H3, T3, N3⟩; have Z3 : Blk (w3.alloc (.cells zR 35)) w3.heap.size zR 35 := Blk.new w3 _ _; have La : Below w3.heap.size w3 (w3.alloc (.cells zR 35)) := (by go_grown))
    | (refine wpList_store_blk rfl 35 _ _ rfl w3.heap.size zR (rcells code m f) 35 rfl rfl Z3 rfl hi ho ?_; rintro w4 B4 K4; have L4 := K4.bel _ _ (Nat.le_refl _) La; clear Z3 La K4))
  have A4 := (T3.blk T2.one.blk T2.one.net A2 (by decide) (by decide)).below L4
  have T4 := (T2.did H3 T3 N3).keep L4
  have L3 : Below w.heap.size w w4 := bel_trans (bel_seq L2 (T3.bel b1 b2 (by have := L2.size; omega))) L4
  clear T2 L2 H3 T3 N3 L4 b2 A2
  have k0 := A4.cell 0
  rw [HK.out] at k0
  have e0 := B4.cell 0
  rw [show (rcells code m f)[0]? = some (.int .i64 code) from rfl] at e0
  have e1 := B4.cell 1
  rw [show (rcells code m f)[1]? = some (.int .i64 m) from rfl] at e1
  have hcase := HCA.out
  clear HCA HK
  generalize a.kind = kind at k0 hcase
  rcases hcase with ⟨h0, h6⟩ | ⟨hm, hnd, hnet⟩
  · subst h0
    have h6' : (kind != 6) = true := by simpa using h6
    clear h6
    go_wp2
    go_ret
    exact ⟨rfl, L3⟩
  · subst hm
    have hsame := same_any T4.one T4.other (fun i _ => (hnd i).symm) hnet.symm HQN.out.1 HQN.out.2
    have HNN : Hid ((∀ i, c1.nd i = c.nd i) ∧ c1.net = c.net) := ⟨hnd, hnet⟩
    clear hnd hnet
    cases hc0 : (code == 0)
    · go_wp2_with (first | (go_at_call 12; refine hsame.mono ?_; rintro e w9 ⟨rfl, L9⟩))
      go_ret
      exact ⟨rfl, bel_trans L3 L9⟩
    · cases h6 : (kind != 6)
      · go_wp2_with (first | (go_at_call 12; refine hsame.mono ?_; rintro e w9 ⟨rfl, L9⟩))
        go_ret
        exact ⟨rfl, bel_trans L3 L9⟩
      · go_wp2
        go_ret
        exact ⟨rfl, L3⟩
end Go.Proofs.Ytmmgaonlmpajbac
