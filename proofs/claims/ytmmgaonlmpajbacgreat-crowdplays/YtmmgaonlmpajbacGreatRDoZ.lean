/-
  The document's node at work: all; opened.
  The document's crowd: Do, of every act, comes to what the landed one's comes to.
  The document's SameNet; two crowds of two types that lie apart.
  The statement CrowdPlays.
-/
import Derived.Test.YtmmgaonlmpajbacGreatDoc3a
import Derived.Test.YtmmgaonlmpajbacGreatDoc3b
import Derived.Test.YtmmgaonlmpajbacGreatNodeB
import Derived.Test.YtmmgaonlmpajbacGreatTurnD
import Derived.Deep.LoopGhost
import Derived.Test.YtmmgaonlmpajbacGreatRDoC
import Derived.Test.YtmmgaonlmpajbacGreatRDoB
import Derived.Test.YtmmgaonlmpajbacGreatRDoV
import Derived.Test.YtmmgaonlmpajbacGreatRDoR
import Derived.Test.YtmmgaonlmpajbacGreatTSame
import Derived.Test.YtmmgaonlmpajbacGreatTPlay
import Derived.Test.YtmmgaonlmpajbacGreatCrowdLaws
namespace Go.Proofs.YtmmgaonlmpajbacGreat
open Go.RowKit

theorem rone_any {bb : Nat} {w : World} {g who : Nat} {a : At} {q sd : Value} (H : Sr bb w g 98 who a q sd) (F : FI a) : Calls Tryz.prog 72 #[.pointer (some ⟨g, 0, none⟩)] w (ROne bb who a w g) := by
  by_cases h : a.n.step = 0
  · exact rone_w0 H F h
  · exact rone_w1 H F h

set_option maxRecDepth 100000 in
set_option maxHeartbeats 8000000 in
theorem rall_any {bb : Nat} {w : World} {g who : Nat} {a : At} {q sd : Value} (H : Sr bb w g 98 who a q sd) (F : FI a) :
    Calls Tryz.prog 48 #[.pointer (some ⟨g, 0, none⟩)] w fun e w' => e = .returned (.tuple #[]) ∧ ∃ q' sd', InR bb w g who (follow who a) q' sd' w' := by
  go_enter Tryz.func48, Tryz.ntmps48
  go_wp2
  go_loopg [2] 1000 (fun gg _ wr => ∃ b q' sd', b.n.mu ≤ gg ∧ Hid (FI b ∧ follow who a = follow who b) ∧ InR bb w g who b q' sd' wr)
  case atStart => exact ⟨a, q, sd, by have := F.few; omega, ⟨F, rfl⟩, H, Below.refl _ _⟩
  case round =>
    obtain ⟨b, q', sd', hmu, hF, hC⟩ := hrel
    have FB := hF.out.1
    have hone := rone_any hC.1 FB
    cases ho : one who b with
    | some c =>
      have hb2 := FB.one ho
      have hone2 : Calls Tryz.prog 72 #[.pointer (some ⟨g, 0, none⟩)] wr fun e w' => e = .returned (.bool true) ∧ ∃ q2 sd2, InR bb w g who c q2 sd2 w' := by
        refine hone.mono ?_
        rintro e w' (⟨h1, _⟩ | ⟨c', h1, rfl, q2, sd2, h2⟩)
        · rw [ho] at h1; cases h1
        · rw [ho] at h1
          obtain rfl := Option.some.inj h1
          exact ⟨rfl, q2, sd2, h2.1, bel_seq hC.2 h2.2⟩
      have HN : Hid (FI c ∧ follow who a = follow who c) := ⟨hb2.1, hF.out.2.trans (follow_some FB ho)⟩
      have hmu2 := hb2.2
      clear hone ho hb2 hF FB
      go_wp2_with (first | (go_at_call 72; refine hone2.mono ?_; rintro e w1 ⟨rfl, q2, sd2, hC2⟩))
      go_roundg c.n.mu
      case measure => omega
      case rel => exact ⟨_, q2, sd2, Nat.le_refl _, HN, hC2⟩
    | none =>
      have hone0 : Calls Tryz.prog 72 #[.pointer (some ⟨g, 0, none⟩)] wr fun e w' => e = .returned (.bool false) ∧ ∃ q2 sd2, InR bb w g who b q2 sd2 w' := by
        refine hone.mono ?_
        rintro e w' (⟨_, rfl, q2, sd2, h2⟩ | ⟨c', h1, _⟩)
        · exact ⟨rfl, q2, sd2, h2.1, bel_seq hC.2 h2.2⟩
        · rw [ho] at h1; cases h1
      have hE : Hid (follow who a = b) := hF.out.2.trans (follow_none ho)
      clear hone ho hF FB
      go_wp2_with (first | (go_at_call 72; refine hone0.mono ?_; rintro e w1 ⟨rfl, q2, sd2, hC2⟩))
      go_end0
      rw [hE.out]
      exact ⟨rfl, q2, sd2, hC2⟩
end Go.Proofs.YtmmgaonlmpajbacGreat
namespace Go.Proofs.YtmmgaonlmpajbacGreat
open Go.RowKit

theorem rall_here : RAll := fun _ _ _ _ _ _ _ H F => rall_any H F

theorem rsubs (RA : RAll) {w : World} {g : Nat} {c : Cw} {q : Nat → Value} {nt : Value} (G : CG c) (h6 : c.acts ≠ 600) (H : CwAt w g 54 c q nt) (a : Ac) (hk : a.kind = 1) :
    Calls Tryz.prog 8 #[.pointer (some ⟨g, 0, none⟩), .agg (acArr a)] w (DidR w g nt (subC c.more a.node a.value).1 (subC c.more a.node a.value).2) := by
  have G1 := G.more h6
  have hlt : c.acts < 600 := by have := G.acts; omega
  unfold subC
  cases hi : win a.node 0 3
  · rw [if_neg (by simp)]
    exact rdo_submit_range H a hlt rfl hk hi
  · rw [if_pos rfl]
    have hi' := win_iff.1 hi
    have h4 : a.node.toNat < 4 := by omega
    have hw := G1.nd a.node.toNat h4
    have ei : a.node = (a.node.toNat : Int) := by omega
    by_cases hs : subCode (c.more.nd a.node.toNat) a.value = 0
    · rw [if_pos hs]
      have hy : win a.value 1 9 = true := by
        cases hy : win a.value 1 9
        · unfold subCode at hs; rw [hy] at hs; simp at hs
        · rfl
      have hq6 : (c.more.nd a.node.toNat).queue.length < 6 := by
        unfold subCode at hs
        rw [if_pos hy] at hs
        by_cases h6 : (c.more.nd a.node.toNat).queue.length = 6
        · rw [if_pos h6] at hs; cases hs
        · have := hw.good.qlen; omega
      exact rdo_submit_yes H a hlt rfl hk a.node.toNat h4 _ (submit_whole hw a.node.toNat hy hq6).2 G1.net ei (fun W q hg ho => rsubmit_yes RA hw.good hw.beyond h4 hy hq6 q g W hg (own_ints ho))
    · rw [if_neg hs]
      exact rdo_submit_no H a hlt rfl hk a.node.toNat h4 _ hs ei (fun W q _ ho => rsubmit_no hw.good h4 hs q W (own_ints ho))
theorem rtimes (RA : RAll) {w : World} {g : Nat} {c : Cw} {q : Nat → Value} {nt : Value} (G : CG c) (h6 : c.acts ≠ 600) (H : CwAt w g 54 c q nt) (a : Ac) (hk : a.kind = 4) :
    Calls Tryz.prog 8 #[.pointer (some ⟨g, 0, none⟩), .agg (acArr a)] w (DidR w g nt (timeC c.more a.node).1 (timeC c.more a.node).2) := by
  have G1 := G.more h6
  have hlt : c.acts < 600 := by have := G.acts; omega
  unfold timeC
  cases hi : win a.node 0 3
  · rw [if_neg (by simp)]
    exact rdo_time_range H a hlt rfl hk hi
  · rw [if_pos rfl]
    have hi' := win_iff.1 hi
    have h4 : a.node.toNat < 4 := by omega
    have hw := G1.nd a.node.toNat h4
    exact rdo_time_yes H a hlt rfl hk a.node.toNat h4 _ (time_whole hw a.node.toNat).2 G1.net (by omega) (fun W q hg ho => rtime_yes RA hw.good hw.beyond h4 q g W hg ho)
theorem rlies (RA : RAll) {w : World} {g : Nat} {c : Cw} {q : Nat → Value} {nt : Value} (G : CG c) (h6 : c.acts ≠ 600) (H : CwAt w g 54 c q nt) (a : Ac) (hk : a.kind = 5) :
    Calls Tryz.prog 8 #[.pointer (some ⟨g, 0, none⟩), .agg (acArr a)] w (DidR w g nt (lieC c.more a.node a.word).1 (lieC c.more a.node a.word).2) := by
  have G1 := G.more h6
  have hlt : c.acts < 600 := by have := G.acts; omega
  unfold lieC
  by_cases hc : goodC a.word.k a.word.f a.word.h a.word.r a.word.v a.word.x = 0
  · rw [if_pos hc]
    by_cases hf : a.word.f = c.more.liar
    · rw [if_pos hf]
      cases hi : win a.node 0 3
      · rw [if_neg (by simp)]
        exact rdo_lie_range H a hlt rfl hk hc hf hi
      · rw [if_pos rfl]
        have hi' := win_iff.1 hi
        have h4 : a.node.toNat < 4 := by omega
        have hw := G1.nd a.node.toNat h4
        unfold hearC
        rw [if_pos hc]
        exact rdo_lie_yes H a hlt rfl hk a.node.toNat h4 _ (hear_whole hw a.node.toNat hc).2 G1.net (by omega) hc hf (fun W q hg ho => rhear_yes RA hw.good hw.beyond h4 hc q g W hg (own_ints ho))
    · rw [if_neg hf]
      exact rdo_lie_true H a hlt rfl hk hc hf
  · rw [if_neg hc]
    exact rdo_lie_bad H a hlt rfl hk _ rfl hc
theorem rdelivers (RA : RAll) {w : World} {g : Nat} {c : Cw} {q : Nat → Value} {nt : Value} (G : CG c) (h6 : c.acts ≠ 600) (H : CwAt w g 54 c q nt) (a : Ac) (hk : a.kind = 2) :
    Calls Tryz.prog 8 #[.pointer (some ⟨g, 0, none⟩), .agg (acArr a)] w (DidR w g nt (deliverC c.more a.n).1 (deliverC c.more a.n).2) := by
  have G1 := G.more h6
  have hlt : c.acts < 600 := by have := G.acts; omega
  cases hn : win a.n 0 ((c.more.net.length : Int) - 1)
  · have e : deliverC c.more a.n = (c.more, refused 4) := by
      unfold deliverC
      by_cases h0 : 0 ≤ a.n
      · rw [letter_no hn h0]
      · split
        · rw [if_neg h0]
        · rfl
    rw [e]
    exact rdo_deliver_none H a hlt rfl hk hn G1.net
  · have hn' := win_iff.1 hn
    have hkl : a.n.toNat < c.more.net.length := by omega
    obtain ⟨who, lv, hx⟩ : ∃ who lv, c.more.net[a.n.toNat]? = some (who, lv) := ⟨_, _, List.getElem?_eq_getElem hkl⟩
    have e : deliverC c.more a.n = hearC c.more who lv := by
      unfold deliverC
      rw [hx]
      exact if_pos hn'.1
    rw [e]
    have h4 : who < 4 := G1.dest (who, lv) (List.mem_of_getElem? hx)
    have hw := G1.nd who h4
    unfold hearC
    by_cases hc : goodC lv.k lv.f lv.h lv.r lv.v lv.x = 0
    · rw [if_pos hc]
      exact rdo_deliver_yes H a hlt rfl hk who h4 _ (hear_whole hw who hc).2 G1.net a.n.toNat lv hx (by omega) (fun W q hg ho => rhear_yes RA hw.good hw.beyond h4 hc q g W hg (own_ints ho))
    · rw [if_neg hc]
      exact rdo_deliver_no H a hlt rfl hk who h4 G1.net _ hc a.n.toNat lv hx (by omega) (fun W q _ ho => rhear_no hw.good h4 rfl hc q W (own_ints ho))
theorem rdrops {w : World} {g : Nat} {c : Cw} {q : Nat → Value} {nt : Value} (G : CG c) (h6 : c.acts ≠ 600) (H : CwAt w g 54 c q nt) (a : Ac) (hk : a.kind = 3) :
    Calls Tryz.prog 8 #[.pointer (some ⟨g, 0, none⟩), .agg (acArr a)] w (DidR w g nt (dropC c.more a.n).1 (dropC c.more a.n).2) := by
  have G1 := G.more h6
  have hlt : c.acts < 600 := by have := G.acts; omega
  unfold dropC
  cases hn : win a.n 0 ((c.more.net.length : Int) - 1)
  · rw [if_neg (by simp)]
    exact rdo_drop_none H a hlt rfl hk hn G1.net
  · rw [if_pos rfl]
    have hn' := win_iff.1 hn
    exact rdo_drop_yes H a hlt rfl hk G1.net a.n.toNat (c.more.net.length - 1 - a.n.toNat) (by omega) (by omega)

theorem rdo_any (RA : RAll) {w : World} {g : Nat} {c : Cw} {q : Nat → Value} {nt : Value} (G : CG c) (H : CwAt w g 54 c q nt) (a : Ac) :
    Calls Tryz.prog 8 #[.pointer (some ⟨g, 0, none⟩), .agg (acArr a)] w (DidR w g nt (doC c a).1 (doC c a).2) := by
  unfold doC
  by_cases h6 : c.acts = 600
  · rw [if_pos h6]
    exact (rdo_full H a h6).mono fun e w' h => didR_of H h
  · rw [if_neg h6]
    have G1 := G.more h6
    have hlt : c.acts < 600 := by have := G.acts; omega
    by_cases k1 : a.kind = 1
    · rw [if_pos k1]; exact rsubs RA G h6 H a k1
    · rw [if_neg k1]
      by_cases k2 : a.kind = 2
      · rw [if_pos k2]; exact rdelivers RA G h6 H a k2
      · rw [if_neg k2]
        by_cases k3 : a.kind = 3
        · rw [if_pos k3]; exact rdrops G h6 H a k3
        · rw [if_neg k3]
          by_cases k4 : a.kind = 4
          · rw [if_pos k4]; exact rtimes RA G h6 H a k4
          · rw [if_neg k4]
            by_cases k5 : a.kind = 5
            · rw [if_pos k5]; exact rlies RA G h6 H a k5
            · rw [if_neg k5]
              by_cases k6 : a.kind = 6
              · rw [if_pos k6]; exact rdo_read H a hlt rfl k6 G1.liar
              · rw [if_neg k6]; exact rdo_none H a hlt rfl ⟨k1, k2, k3, k4, k5, k6⟩
end Go.Proofs.YtmmgaonlmpajbacGreat
namespace Go.Proofs.YtmmgaonlmpajbacGreat
open Go.RowKit

set_option maxRecDepth 100000 in
set_option maxHeartbeats 4000000 in
theorem sameNet_any (net : List (Nat × Wd)) (v v' : Value) (b b' : Nat) (w : World) (h : w.ownsRow b 79 7 v net.length (lesCells net)) (h' : w.ownsRow b' 79 7 v' net.length (lesCells net)) (hl : net.length ≤ 2000) :
    Calls Tryz.prog 11 #[v, v'] w fun e w' => e = .returned (.bool true) ∧ Below w.heap.size w w' := by
  obtain ⟨a1, c1, hv1⟩ := own_shape h
  subst hv1
  obtain ⟨a2, c2, hv2⟩ := own_shape h'
  subst hv2
  have O1 : Hid (∀ W, Below w.heap.size w W → W.ownsRow b 79 7 (.slice a1 net.length c1) net.length (lesCells net)) := fun W hW => own_below h hW
  have O2 : Hid (∀ W, Below w.heap.size w W → W.ownsRow b' 79 7 (.slice a2 net.length c2) net.length (lesCells net)) := fun W hW => own_below h' hW
  clear h h'
  go_enter Tryz.func11, Tryz.ntmps11
  go_wp2
  go_loopw [13] (fun i W => ∃ j : Nat, j ≤ net.length ∧ i = .int .i64 (j : Int) ∧ Below w.heap.size w W) (fun i _ => net.length - (intOf i).toNat)
  case atStart => exact ⟨0, by omega, rfl, Below.refl _ _⟩
  case round =>
    obtain ⟨j, hj, rfl, hB⟩ := hrel
    by_cases hlt : j < net.length
    · have hjI : (j : Int) < (net.length : Int) := by omega
      have hx : net[j]? = some net[j] := List.getElem?_eq_getElem hlt
      obtain ⟨b1, k1, hv, _⟩ := own_at (O1.out wr hB) (by omega)
      injection hv with hv1 hv2 hv3
      subst hv1 hv3
      obtain ⟨b2, k2, hv', _⟩ := own_at (O2.out wr hB) (by omega)
      injection hv' with hv1 hv2 hv3
      subst hv1 hv3
      have hr1 : ∀ V, Below w.heap.size w V → V.rangeAt b1 (j * 7) (leArr net[j]).toList := fun V hV => le_range (O1.out V hV) hx
      have hr2 : ∀ V, Below w.heap.size w V → V.rangeAt b2 (j * 7) (leArr net[j]).toList := fun V hV => le_range (O2.out V hV) hx
      clear hx
      generalize net[j] = x at hr1 hr2
      have heq := eq_letter x
      have hil := info_leArr x
      generalize leArr x = X at hr1 hr2 heq hil
      go_upto_region 6 with fail
      refine q_region (C := fun V => Below w.heap.size w V) (by kernel_rfl) (by kernel_rfl) (below_drew' hB) ?_
      repeat (first
        | (refine q_skip (by rfl) ?_; simp only [Act.put, List.setIfInBounds_toArray, List.set_cons_zero, List.set_cons_succ])
        | (refine q_load (by rfl) 79 _ rfl b1 (j * 7) (by first | rfl | simp) X _ hr1 Tryz.underlying79 rfl hil ?_; simp only [Act.put, List.setIfInBounds_toArray, List.set_cons_zero, List.set_cons_succ])
        | (refine q_load (by rfl) 79 _ rfl b2 (j * 7) (by first | rfl | simp) X _ hr2 Tryz.underlying79 rfl hil ?_; simp only [Act.put, List.setIfInBounds_toArray, List.set_cons_zero, List.set_cons_succ])
        | (refine q_run_ex (by rfl) ?_
           apply Exists.intro
           refine ⟨fun w0 hC => ?_, ?_⟩
           · clear hC; go_simp; rfl
           simp only [Act.put, List.setIfInBounds_toArray, List.set_cons_zero, List.set_cons_succ]))
      refine q_nil ?_
      intro w4 hC4
      go_wp2
      go_roundw
      case rel => exact ⟨j + 1, by omega, by go_num, hC4⟩
      case measure => simp [intOf]; omega
    · have hjI : ¬ (j : Int) < (net.length : Int) := by omega
      go_wp2
      go_ret
      exact ⟨rfl, hB⟩

/-- Two crowds, of whatever types, lie apart. -/
structure TwoT (W : World) (g : Nat) (t : TypeId) (c : Cw) (q : Nat → Value) (nt : Value) (g' : Nat) (t' : TypeId) (d : Cw) (q' : Nat → Value) (nt' : Value) : Prop where
  one : CwAt W g t c q nt
  other : CwAt W g' t' d q' nt'
  ne : g ≠ g'
  apart : ∀ k, nt.ownBlock = some k → nt'.ownBlock ≠ some k
section
variable {W W' : World} {g g' : Nat} {t t' : TypeId} {c c' d : Cw} {q q' p : Nat → Value} {nt nt' mt : Value}
theorem TwoT.swap (h : TwoT W g t c q nt g' t' d q' nt') : TwoT W g' t' d q' nt' g t c q nt := ⟨h.other, h.one, h.ne.symm, fun k hk hk' => h.apart k hk' hk⟩
theorem TwoT.keep (h : TwoT W g t c q nt g' t' d q' nt') (b : Below W.heap.size W W') : TwoT W' g t c q nt g' t' d q' nt' := ⟨h.one.keep b, h.other.keep b, h.ne, h.apart⟩
theorem TwoT.did (h : TwoT W g t c q nt g' t' d q' nt') (H : CwAt W' g t c' p mt) (T : Touch g nt W W') (N : Next nt mt W) (h1 : 3 ≠ t) (h2 : 79 ≠ t) (h3 : 3 ≠ 79) (h4 : 79 ≠ t') : TwoT W' g t c' p mt g' t' d q' nt' := by
  have hg' := h.other.blk.lt
  have hnet : ∀ k, nt'.ownBlock = some k → W'.heap[k]? = W.heap[k]? := fun k hk => by
    obtain ⟨_, hlt, cur, hc⟩ := own_block h.other.net k hk
    refine T.block k hlt (fun e => ?_) (fun e => h.apart k e hk)
    subst e
    have := h.one.blk
    unfold Blk at this
    rw [hc] at this
    injection this with this; injection this with _ this
    exact h2 this
  refine ⟨H, ⟨?_, fun i hi => T.own h.one.blk h.one.net (h.other.que i hi) h1 h3, ?_⟩, h.ne, fun k hk hk' => ?_⟩
  · have hb := h.other.blk
    unfold Blk at hb ⊢
    rw [T.block g' hg' h.ne.symm (own_not h.other.blk h.one.net h4)]
    exact hb
  · refine ⟨h.other.net.1, ?_⟩
    rcases h.other.net.2 with o | ⟨k, cap, cur, hv, hb, hh, h3⟩
    · exact Or.inl o
    · refine Or.inr ⟨k, cap, cur, hv, hb, ?_, h3⟩
      rw [hnet k (by rw [hv]; rfl)]
      exact hh
  · obtain ⟨_, hlt, _⟩ := own_block h.other.net k hk'
    rcases N with n | n
    · exact h.apart k (n.symm.trans hk) hk'
    · have := n k hk; omega
end
end Go.Proofs.YtmmgaonlmpajbacGreat
namespace Go.Proofs.YtmmgaonlmpajbacGreat
open Go.RowKit

theorem next_low {nt nt' : Value} {W : World} {B : Nat} (h : Next nt nt' W) (hn : ∀ b, nt.ownBlock = some b → B ≤ b) (hB : B ≤ W.heap.size) : ∀ b, nt'.ownBlock = some b → B ≤ b := fun b hb => by
  rcases h with h | h
  · exact hn b (by rw [← h]; exact hb)
  · have := h b hb; omega

set_option maxRecDepth 100000 in
set_option maxHeartbeats 8000000 in
theorem crowdPlays_any (liar : Int) (l : List Ac) (s : Value) (w : World) (hs : ActsAt w s l) (hlen : l.length * 112 ≤ 140737488355328) :
    Calls Tryz.prog 3 #[.int .i64 liar, s] w fun e w' => e = .returned (.bool true) ∧ Below w.heap.size w w' := by
  obtain ⟨sa, sc, hsv⟩ := hs.len
  subst hsv
  have hz := run_zeroN
  by_cases hl : -1 ≤ liar ∧ liar ≤ 3
  · have HS : Hid (∀ W, Below w.heap.size w W → ActsAt W (.slice sa l.length sc) l) := fun W hW => hs.keep hW
    have HL : Hid (-1 ≤ liar ∧ liar ≤ 3) := hl
    have HN := new_good liar hl
    have HR := rnew_good liar hl
    clear hl hs
    go_enter Tryz.func3, Tryz.ntmps3
    go_upto_region 7 with (first
      | (go_at_call 4; refine (HN _).mono ?_; rintro e w1 ⟨rfl, H1, L1⟩)
      | (go_at_call 5; refine (HR _).mono ?_; rintro e w2 ⟨rfl, H2, L2⟩)
      | (go_at_call 6; refine (lalive_any _).mono ?_; rintro e w3 ⟨rfl, L3⟩))
    have hg2 : w.heap.size < w1.heap.size := H1.blk.lt
    have D3 : TwoT w3 w.heap.size 62 (newC liar) (fun _ => .slice none 0 0) (.slice none 0 0) w1.heap.size 54 (newC liar) (fun _ => .slice none 0 0) (.slice none 0 0) := TwoT.keep ⟨H1.keep L2, H2, by omega, fun k hk => by cases hk⟩ L3
    have B3 : Below w.heap.size w w3 := bel_trans (bel_trans L1 L2) L3
    clear H1 H2 L1 L2 L3 HN HR
    generalize w1.heap.size = g2 at D3 hg2 ⊢
    go_wp2
    go_loopw [9] (fun i V => ∃ (k : Nat) (q q' : Nat → Value) (nt nt' : Value), k ≤ most l ∧ i = .int .i64 (k : Int) ∧ TwoT V w.heap.size 62 (playC liar l k) q nt g2 54 (playC liar l k) q' nt' ∧ (∀ b, nt.ownBlock = some b → w.heap.size ≤ b) ∧ (∀ b, nt'.ownBlock = some b → w.heap.size ≤ b) ∧ Below w.heap.size w V) (fun i _ => 300 - (intOf i).toNat)
    case atStart => exact ⟨0, _, _, _, _, Nat.zero_le _, rfl, D3, (fun b hb => by cases hb), (fun b hb => by cases hb), B3⟩
    case round =>
      clear D3 B3
      obtain ⟨k, q, q', nt, nt', hk, rfl, D4, hnt, hnt', B4⟩ := hrel
      by_cases hlt : k < most l
      · have hk1 : k < l.length := by unfold most at hlt; omega
        have hk3 : k < 300 := by unfold most at hlt; omega
        have hkI : (k : Int) < (l.length : Int) := by omega
        have hkJ : (k : Int) < 300 := by omega
        have hx : l[k]? = some l[k] := List.getElem?_eq_getElem hk1
        obtain ⟨ab, ao, cap, hv, hr⟩ := (HS.out _ B4).lies hx
        injection hv with hv1 hv2 hv3
        subst hv1 hv3
        have hG := playC_good HL.out l k
        have HP : Hid (playC liar l (k + 1) = (doC (playC liar l k) l[k]).1) := playC_succ hx
        have hdo := fun W q nt (hW : CwAt W w.heap.size 62 (playC liar l k) q nt) => do_any hG hW l[k]
        have hrd := fun W q nt (hW : CwAt W g2 54 (playC liar l k) q nt) => rdo_any rall_here hG hW l[k]
        obtain ⟨code, nn, f, hrep⟩ := do_isRep (playC liar l k) l[k]
        rw [hrep, ← HP.out] at hdo hrd
        have HA : Hid (∀ W, Below w.heap.size w W → W.rangeAt ab (ao + k * 14) (acArr l[k]).toList) := fun W hW => by
          obtain ⟨b', o', cap', hv', hr'⟩ := (HS.out W hW).lies hx
          injection hv' with hv1 hv2 hv3
          injection hv1 with hv1
          injection hv1 with hv1 hv4 _
          rw [hv1, hv4]; exact hr'
        have HDo : Hid _ := hdo
        have HRd : Hid _ := hrd
        clear hdo hrd hrep hx hG HP hr
        generalize l[k] = x at HDo HRd HA
        have hia : (Tryz.prog.info? 38).map (·.size) = some (acArr x).size := by show _ = some 14; kernel_rfl
        have heq := eq_rep code nn f
        generalize rcells code nn f = X at HDo HRd heq
        rename World => w4
        have hs4 := B4.size
        go_upto_region 10 with fail
        refine held_region (fun W => W.rangeAt ab (ao + k * 14) (acArr x).toList) [] [(0, 0), (1, 0), (2, 0), (3, 0), (4, 1), (6, 0), (7, 0), (8, 0), (9, 0), (10, 1), (5, 2), (11, 2), (12, 0)] (by kernel_rfl) (by kernel_rfl) (by kernel_rfl) rfl (fun _ _ d _ _ h => by cases d <;> exact h) (HA.out _ (below_drew' B4)) ?_
        repeat (first
          | (refine ord_run0_ex rfl (by rfl) ?_
             apply Exists.intro
             refine ⟨fun w0 => ?_, ?_⟩
             · go_simp; rfl
             simp only [Act.put, List.setIfInBounds_toArray, List.set_cons_zero, List.set_cons_succ])
          | (refine ord_load rfl (by rfl) 38 _ rfl ab (ao + k * 14) (by first | rfl | simp) (acArr x) _ (fun W H => H) Tryz.underlying38 rfl hia ?_; simp only [Act.put, List.setIfInBounds_toArray, List.set_cons_zero, List.set_cons_succ]))
        refine ord_call_ex rfl (by rfl) ⟨7, #[.pointer (some ⟨w.heap.size, 0, none⟩), .agg (acArr x)], by go_simp, (HDo.out w4.drew q nt D4.one.drew).mono ?_⟩
        rintro e w5 ⟨rfl, q5, nt5, H5, T5, N5⟩
        have D5 := (TwoT.keep D4 (below_drew' (Below.refl _ _))).did H5 T5 N5 (by decide) (by decide) (by decide) (by decide)
        have B5 : Below w.heap.size w w5 := bel_seq (below_drew' B4) (T5.bel (Nat.le_refl _) hnt hs4)
        have hnt5 := next_low N5 hnt hs4
        have hs5 := B5.size
        refine ⟨_, rfl, fun _ => HA.out _ B5, ?_⟩
        try simp only [Act.put, List.setIfInBounds_toArray, List.set_cons_zero, List.set_cons_succ]
        refine ord_call_ex rfl (by rfl) ⟨8, #[.pointer (some ⟨g2, 0, none⟩), .agg (acArr x)], by go_simp, (HRd.out w5 q' nt' D5.other).mono ?_⟩
        rintro e w6 ⟨rfl, q6, nt6, H6, T6, N6⟩
        have D6 := (D5.swap.did H6 T6 N6 (by decide) (by decide) (by decide) (by decide)).swap
        have B6 : Below w.heap.size w w6 := bel_seq B5 (T6.bel (Nat.le_of_lt hg2) hnt' hs5)
        have hnt6 := next_low N6 hnt' hs5
        refine ⟨_, rfl, fun _ => HA.out _ B6, ?_⟩
        try simp only [Act.put, List.setIfInBounds_toArray, List.set_cons_zero, List.set_cons_succ]
        repeat (first
          | (refine ord_run0_ex rfl (by rfl) ?_
             apply Exists.intro
             refine ⟨fun w0 => ?_, ?_⟩
             · go_simp; rfl
             simp only [Act.put, List.setIfInBounds_toArray, List.set_cons_zero, List.set_cons_succ]))
        show wpOrd _ _ _ _ _ [] _ _ _
        unfold wpOrd
        clear HDo HRd D4 D5 H5 T5 N5 H6 T6 N6 B4 B5
        go_wp2
        go_roundw
        case rel => exact ⟨k + 1, q5, q6, nt5, nt6, by omega, by go_num, D6, hnt5, hnt6, B6⟩
        case measure => simp [intOf]; omega
      · have hend : ¬ ((k : Int) < (l.length : Int) ∧ (k : Int) < 300) := by unfold most at hlt; omega
        have G := playC_good HL.out l k
        generalize playC liar l k = c at D4 G
        rename World => w4
        have hB : ∀ V, Below w4.heap.size w4 V → TwoT V w.heap.size 62 c q nt g2 54 c q' nt' := fun V hV => D4.keep hV
        have HB : Hid _ := hB
        have HG : Hid (CG c) := G
        clear hB D4 G hlt HS
        by_cases hk1 : (k : Int) < (l.length : Int)
        · have hk3 : ¬ (k : Int) < 300 := fun h => hend ⟨hk1, h⟩
          clear hend
          go_wp2
          go_loopw [10] (fun i V => ∃ y : Int, -1 ≤ y ∧ y ≤ 5 ∧ i = .int .i64 y ∧ Below w4.heap.size w4 V) (fun i _ => (5 - intOf i).toNat)
          case atStart => exact ⟨-1, by omega, by omega, rfl, Below.refl _ _⟩
          case round =>
            obtain ⟨y, hy1, hy2, rfl, B5⟩ := hrel
            rename World => w5
            by_cases h5 : y ≤ 4
            · by_cases h0 : 0 ≤ y
              · by_cases h4 : y < 4
                · obtain ⟨i, rfl⟩ : ∃ i : Nat, y = (i : Int) := ⟨y.toNat, by omega⟩
                  have hi4 : i < 4 := by omega
                  have hiI : (i : Int) < 4 := by omega
                  have hi0 : (i : Int) ≥ 0 := by omega
                  have hql := (HG.out.nd i hi4).good.qlen
                  have P5 : Blk (w5.alloc (.cells zN.cells 50)) w5.heap.size zN.cells 50 := Blk.new w5 _ _
                  have L5 : Below w5.heap.size w5 (w5.alloc (.cells zN.cells 50)) := by go_grown
                  have hiw := infoN ((c.nd i).ni (q' i))
                  go_upto_region 17 with fail
                  generalize (w5.alloc (.cells zN.cells 50)) = w55 at P5 L5 ⊢
                  have B55 := bel_trans B5 L5
                  have D55 := HB.out w55 B55
                  have hr := D55.other.node i hi4
                  go_upto_region 18 with (first
                    | (refine wpList_load_part (by rfl) 50 _ rfl g2 (i * 282) (by first | rfl | simp) ((c.nd i).ni (q' i)).cells _ hr Tryz.underlying50 rfl hiw ?_)
                    | (refine wpList_store_blk rfl 50 _ _ rfl w5.heap.size zN.cells ((c.nd i).ni (q' i)).cells 50 rfl rfl P5 (by rw [ncells_size, ncells_size]) hiw (one_cellN _ (own_one (D55.other.que i hi4))) ?_; rintro w6 P6 K6))
                  have B6 : Below w4.heap.size w4 w6 := K6.bel _ _ (by have := B5.size; omega) B55
                  have D6 := HB.out w6 B6
                  clear B5 B55 D55 hr K6 P5 L5
                  generalize w5.heap.size = pw at P6 ⊢
                  refine held_region (fun W => Blk W pw ((c.nd i).ni (q' i)).cells 50) [] [(0, 0), (1, 0), (3, 1), (2, 2), (4, 2), (5, 0)] (by kernel_rfl) (by kernel_rfl) (by kernel_rfl) rfl (fun _ _ d _ _ h => by cases d <;> exact h) P6.drew ?_
                  repeat (first
                    | (refine ord_run0_ex rfl (by rfl) ?_
                       apply Exists.intro
                       refine ⟨fun w0 => ?_, ?_⟩
                       · go_simp; rfl
                       simp only [Act.put, List.setIfInBounds_toArray, List.set_cons_zero, List.set_cons_succ])
                    | (refine ord_load rfl (by rfl) 50 _ rfl pw 0 rfl ((c.nd i).ni (q' i)).cells _ (fun W H => H.range) Tryz.underlying50 rfl hiw ?_; simp only [Act.put, List.setIfInBounds_toArray, List.set_cons_zero, List.set_cons_succ]))
                  refine ord_call_ex rfl (by rfl) ⟨10, #[.pointer (some ⟨w.heap.size, 0, none⟩), .int .i64 (i : Int)], by go_simp, (node_any D6.one.drew i hi4 hql).mono ?_⟩
                  rintro e w7 ⟨q7, rfl, own7, L7'⟩
                  have L7 : Below w6.heap.size w6 w7 := bel_seq (below_drew' (Below.refl _ w6)) L7'
                  have D7 := D6.keep L7
                  refine ⟨_, rfl, fun _ => P6.below L7, ?_⟩
                  try simp only [Act.put, List.setIfInBounds_toArray, List.set_cons_zero, List.set_cons_succ]
                  refine ord_call_ex rfl (by rfl) ⟨9, #[.agg ((c.nd i).ni q7).cells, .agg ((c.nd i).ni (q' i)).cells], by go_simp, (sameNode_alike ((c.nd i).ni q7) (q' i) (c.nd i).queue _ (own_ints own7) (D7.other.ints i hi4) (by omega)).mono ?_⟩
                  rintro e w8 ⟨rfl, L8⟩
                  refine ⟨_, rfl, fun _ => (P6.below L7).below L8, ?_⟩
                  try simp only [Act.put, List.setIfInBounds_toArray, List.set_cons_zero, List.set_cons_succ]
                  repeat (first
                    | (refine ord_run0_ex rfl (by rfl) ?_
                       apply Exists.intro
                       refine ⟨fun w0 => ?_, ?_⟩
                       · go_simp; rfl
                       simp only [Act.put, List.setIfInBounds_toArray, List.set_cons_zero, List.set_cons_succ]))
                  show wpOrd _ _ _ _ _ [] _ _ _
                  unfold wpOrd
                  have B8 := bel_trans (bel_trans B6 L7) L8
                  clear P6 L7 L8
                  go_wp2
                  go_roundw
                  case rel => exact ⟨(i : Int) + 1, by omega, by omega, by go_num, B8⟩
                  case measure => simp [intOf]; omega
                · obtain rfl : y = 4 := by omega
                  clear h4 h0 h5 hy1 hy2
                  have P6 : Blk (w5.alloc (.cells zN.cells 50)) w5.heap.size zN.cells 50 := Blk.new w5 _ _
                  have L6 : Below w5.heap.size w5 (w5.alloc (.cells zN.cells 50)) := by go_grown
                  have hiw := infoN zN
                  go_upto_region 18 with fail
                  generalize (w5.alloc (.cells zN.cells 50)) = w6 at P6 L6 ⊢
                  have B6 := bel_trans B5 L6
                  clear B5
                  generalize w5.heap.size = pw at P6 ⊢
                  refine held_region (fun W => Blk W pw zN.cells 50) [] [(0, 0), (1, 0), (3, 1), (2, 2), (4, 2), (5, 0)] (by kernel_rfl) (by kernel_rfl) (by kernel_rfl) rfl (fun _ _ d _ _ h => by cases d <;> exact h) P6.drew ?_
                  repeat (first
                    | (refine ord_run0_ex rfl (by rfl) ?_
                       apply Exists.intro
                       refine ⟨fun w0 => ?_, ?_⟩
                       · go_simp; rfl
                       simp only [Act.put, List.setIfInBounds_toArray, List.set_cons_zero, List.set_cons_succ])
                    | (refine ord_load rfl (by rfl) 50 _ rfl pw 0 rfl zN.cells _ (fun W H => H.range) Tryz.underlying50 rfl hiw ?_; simp only [Act.put, List.setIfInBounds_toArray, List.set_cons_zero, List.set_cons_succ]))
                  refine ord_call_ex rfl (by rfl) ⟨10, #[.pointer (some ⟨w.heap.size, 0, none⟩), .int .i64 4], by go_simp, (node_zero (some ⟨w.heap.size, 0, none⟩) 4 (Or.inr (by rfl)) _).mono ?_⟩
                  rintro e w7 ⟨rfl, L7'⟩
                  have L7 : Below w6.heap.size w6 w7 := bel_seq (below_drew' (Below.refl _ w6)) L7'
                  refine ⟨_, rfl, fun _ => P6.below L7, ?_⟩
                  try simp only [Act.put, List.setIfInBounds_toArray, List.set_cons_zero, List.set_cons_succ]
                  refine ord_call_ex rfl (by rfl) ⟨9, #[.agg zN.cells, .agg zN.cells], by go_simp, (sameNode_alike zN (.slice none 0 0) [] _ (Or.inl ⟨rfl, 0, rfl⟩) (Or.inl ⟨rfl, 0, rfl⟩) (by simp)).mono ?_⟩
                  rintro e w8 ⟨rfl, L8⟩
                  refine ⟨_, rfl, fun _ => (P6.below L7).below L8, ?_⟩
                  try simp only [Act.put, List.setIfInBounds_toArray, List.set_cons_zero, List.set_cons_succ]
                  repeat (first
                    | (refine ord_run0_ex rfl (by rfl) ?_
                       apply Exists.intro
                       refine ⟨fun w0 => ?_, ?_⟩
                       · go_simp; rfl
                       simp only [Act.put, List.setIfInBounds_toArray, List.set_cons_zero, List.set_cons_succ]))
                  show wpOrd _ _ _ _ _ [] _ _ _
                  unfold wpOrd
                  have B8 := bel_trans (bel_trans B6 L7) L8
                  clear P6 L7 L8
                  go_wp2
                  go_roundw
                  case rel => exact ⟨4 + 1, by omega, by omega, by first | rfl | go_num, B8⟩
                  case measure => simp [intOf]
              · obtain rfl : y = -1 := by omega
                clear h0 h5 hy1 hy2
                have P6 : Blk (w5.alloc (.cells zN.cells 50)) w5.heap.size zN.cells 50 := Blk.new w5 _ _
                have L6 : Below w5.heap.size w5 (w5.alloc (.cells zN.cells 50)) := by go_grown
                have hiw := infoN zN
                go_upto_region 18 with fail
                generalize (w5.alloc (.cells zN.cells 50)) = w6 at P6 L6 ⊢
                have B6 := bel_trans B5 L6
                clear B5
                generalize w5.heap.size = pw at P6 ⊢
                refine held_region (fun W => Blk W pw zN.cells 50) [] [(0, 0), (1, 0), (3, 1), (2, 2), (4, 2), (5, 0)] (by kernel_rfl) (by kernel_rfl) (by kernel_rfl) rfl (fun _ _ d _ _ h => by cases d <;> exact h) P6.drew ?_
                repeat (first
                  | (refine ord_run0_ex rfl (by rfl) ?_
                     apply Exists.intro
                     refine ⟨fun w0 => ?_, ?_⟩
                     · go_simp; rfl
                     simp only [Act.put, List.setIfInBounds_toArray, List.set_cons_zero, List.set_cons_succ])
                  | (refine ord_load rfl (by rfl) 50 _ rfl pw 0 rfl zN.cells _ (fun W H => H.range) Tryz.underlying50 rfl hiw ?_; simp only [Act.put, List.setIfInBounds_toArray, List.set_cons_zero, List.set_cons_succ]))
                refine ord_call_ex rfl (by rfl) ⟨10, #[.pointer (some ⟨w.heap.size, 0, none⟩), .int .i64 (-1)], by go_simp, (node_zero (some ⟨w.heap.size, 0, none⟩) (-1) (Or.inr (by rfl)) _).mono ?_⟩
                rintro e w7 ⟨rfl, L7'⟩
                have L7 : Below w6.heap.size w6 w7 := bel_seq (below_drew' (Below.refl _ w6)) L7'
                refine ⟨_, rfl, fun _ => P6.below L7, ?_⟩
                try simp only [Act.put, List.setIfInBounds_toArray, List.set_cons_zero, List.set_cons_succ]
                refine ord_call_ex rfl (by rfl) ⟨9, #[.agg zN.cells, .agg zN.cells], by go_simp, (sameNode_alike zN (.slice none 0 0) [] _ (Or.inl ⟨rfl, 0, rfl⟩) (Or.inl ⟨rfl, 0, rfl⟩) (by simp)).mono ?_⟩
                rintro e w8 ⟨rfl, L8⟩
                refine ⟨_, rfl, fun _ => (P6.below L7).below L8, ?_⟩
                try simp only [Act.put, List.setIfInBounds_toArray, List.set_cons_zero, List.set_cons_succ]
                repeat (first
                  | (refine ord_run0_ex rfl (by rfl) ?_
                     apply Exists.intro
                     refine ⟨fun w0 => ?_, ?_⟩
                     · go_simp; rfl
                     simp only [Act.put, List.setIfInBounds_toArray, List.set_cons_zero, List.set_cons_succ]))
                show wpOrd _ _ _ _ _ [] _ _ _
                unfold wpOrd
                have B8 := bel_trans (bel_trans B6 L7) L8
                clear P6 L7 L8
                go_wp2
                go_roundw
                case rel => exact ⟨(-1) + 1, by omega, by omega, by first | rfl | go_num, B8⟩
                case measure => simp [intOf]
            · have hend : ¬ y ≤ 4 := h5
              have D5 := HB.out w5 B5
              obtain ⟨na, nc, hnv⟩ := own_shape D5.other.net
              have s5 := D5.other.slice
              have hlG := HG.out.net
              go_upto_region 20 with fail
              refine held_region (fun W => W.cell? ⟨g2, 1128, none⟩ = some nt') [] [(0, 0), (2, 0), (3, 0), (4, 0), (5, 1), (1, 2), (6, 2), (7, 0)] (by kernel_rfl) (by kernel_rfl) (by kernel_rfl) rfl (fun _ _ d _ _ h => by cases d <;> exact h) s5 ?_
              repeat (first
                | (refine ord_run0_ex rfl (by rfl) ?_
                   apply Exists.intro
                   refine ⟨fun w0 => ?_, ?_⟩
                   · go_simp; rfl
                   simp only [Act.put, List.setIfInBounds_toArray, List.set_cons_zero, List.set_cons_succ])
                | (refine ord_run1_ex rfl (by rfl) ?_
                   apply Exists.intro
                   refine ⟨fun w0 hC => ?_, ?_⟩
                   · have z1 := hC; clear hC; go_simp; rfl
                   simp only [Act.put, List.setIfInBounds_toArray, List.set_cons_zero, List.set_cons_succ]))
              refine ord_call_ex rfl (by rfl) ⟨12, #[.pointer (some ⟨w.heap.size, 0, none⟩)], by go_simp, (net_any D5.one.drew hlG).mono ?_⟩
              rintro e w7 ⟨n7, rfl, own7, L7'⟩
              have L7 : Below w5.heap.size w5 w7 := bel_seq (below_drew' (Below.refl _ w5)) L7'
              have D7 := D5.keep L7
              refine ⟨_, rfl, fun _ => D7.other.slice, ?_⟩
              try simp only [Act.put, List.setIfInBounds_toArray, List.set_cons_zero, List.set_cons_succ]
              refine ord_call_ex rfl (by rfl) ⟨11, #[n7, nt'], by go_simp, (sameNet_any c.net n7 nt' _ _ w7 own7 D7.other.net hlG).mono ?_⟩
              rintro e w8 ⟨rfl, L8⟩
              refine ⟨_, rfl, fun _ => (D7.keep L8).other.slice, ?_⟩
              try simp only [Act.put, List.setIfInBounds_toArray, List.set_cons_zero, List.set_cons_succ]
              repeat (first
                | (refine ord_run0_ex rfl (by rfl) ?_
                   apply Exists.intro
                   refine ⟨fun w0 => ?_, ?_⟩
                   · go_simp; rfl
                   simp only [Act.put, List.setIfInBounds_toArray, List.set_cons_zero, List.set_cons_succ]))
              show wpOrd _ _ _ _ _ [] _ _ _
              unfold wpOrd
              go_wp2
              go_ret
              exact ⟨rfl, bel_trans (bel_trans (bel_trans B4 B5) L7) L8⟩
        · clear hend
          go_wp2
          go_loopw [10] (fun i V => ∃ y : Int, -1 ≤ y ∧ y ≤ 5 ∧ i = .int .i64 y ∧ Below w4.heap.size w4 V) (fun i _ => (5 - intOf i).toNat)
          case atStart => exact ⟨-1, by omega, by omega, rfl, Below.refl _ _⟩
          case round =>
            obtain ⟨y, hy1, hy2, rfl, B5⟩ := hrel
            rename World => w5
            by_cases h5 : y ≤ 4
            · by_cases h0 : 0 ≤ y
              · by_cases h4 : y < 4
                · obtain ⟨i, rfl⟩ : ∃ i : Nat, y = (i : Int) := ⟨y.toNat, by omega⟩
                  have hi4 : i < 4 := by omega
                  have hiI : (i : Int) < 4 := by omega
                  have hi0 : (i : Int) ≥ 0 := by omega
                  have hql := (HG.out.nd i hi4).good.qlen
                  have P5 : Blk (w5.alloc (.cells zN.cells 50)) w5.heap.size zN.cells 50 := Blk.new w5 _ _
                  have L5 : Below w5.heap.size w5 (w5.alloc (.cells zN.cells 50)) := by go_grown
                  have hiw := infoN ((c.nd i).ni (q' i))
                  go_upto_region 17 with fail
                  generalize (w5.alloc (.cells zN.cells 50)) = w55 at P5 L5 ⊢
                  have B55 := bel_trans B5 L5
                  have D55 := HB.out w55 B55
                  have hr := D55.other.node i hi4
                  go_upto_region 18 with (first
                    | (refine wpList_load_part (by rfl) 50 _ rfl g2 (i * 282) (by first | rfl | simp) ((c.nd i).ni (q' i)).cells _ hr Tryz.underlying50 rfl hiw ?_)
                    | (refine wpList_store_blk rfl 50 _ _ rfl w5.heap.size zN.cells ((c.nd i).ni (q' i)).cells 50 rfl rfl P5 (by rw [ncells_size, ncells_size]) hiw (one_cellN _ (own_one (D55.other.que i hi4))) ?_; rintro w6 P6 K6))
                  have B6 : Below w4.heap.size w4 w6 := K6.bel _ _ (by have := B5.size; omega) B55
                  have D6 := HB.out w6 B6
                  clear B5 B55 D55 hr K6 P5 L5
                  generalize w5.heap.size = pw at P6 ⊢
                  refine held_region (fun W => Blk W pw ((c.nd i).ni (q' i)).cells 50) [] [(0, 0), (1, 0), (3, 1), (2, 2), (4, 2), (5, 0)] (by kernel_rfl) (by kernel_rfl) (by kernel_rfl) rfl (fun _ _ d _ _ h => by cases d <;> exact h) P6.drew ?_
                  repeat (first
                    | (refine ord_run0_ex rfl (by rfl) ?_
                       apply Exists.intro
                       refine ⟨fun w0 => ?_, ?_⟩
                       · go_simp; rfl
                       simp only [Act.put, List.setIfInBounds_toArray, List.set_cons_zero, List.set_cons_succ])
                    | (refine ord_load rfl (by rfl) 50 _ rfl pw 0 rfl ((c.nd i).ni (q' i)).cells _ (fun W H => H.range) Tryz.underlying50 rfl hiw ?_; simp only [Act.put, List.setIfInBounds_toArray, List.set_cons_zero, List.set_cons_succ]))
                  refine ord_call_ex rfl (by rfl) ⟨10, #[.pointer (some ⟨w.heap.size, 0, none⟩), .int .i64 (i : Int)], by go_simp, (node_any D6.one.drew i hi4 hql).mono ?_⟩
                  rintro e w7 ⟨q7, rfl, own7, L7'⟩
                  have L7 : Below w6.heap.size w6 w7 := bel_seq (below_drew' (Below.refl _ w6)) L7'
                  have D7 := D6.keep L7
                  refine ⟨_, rfl, fun _ => P6.below L7, ?_⟩
                  try simp only [Act.put, List.setIfInBounds_toArray, List.set_cons_zero, List.set_cons_succ]
                  refine ord_call_ex rfl (by rfl) ⟨9, #[.agg ((c.nd i).ni q7).cells, .agg ((c.nd i).ni (q' i)).cells], by go_simp, (sameNode_alike ((c.nd i).ni q7) (q' i) (c.nd i).queue _ (own_ints own7) (D7.other.ints i hi4) (by omega)).mono ?_⟩
                  rintro e w8 ⟨rfl, L8⟩
                  refine ⟨_, rfl, fun _ => (P6.below L7).below L8, ?_⟩
                  try simp only [Act.put, List.setIfInBounds_toArray, List.set_cons_zero, List.set_cons_succ]
                  repeat (first
                    | (refine ord_run0_ex rfl (by rfl) ?_
                       apply Exists.intro
                       refine ⟨fun w0 => ?_, ?_⟩
                       · go_simp; rfl
                       simp only [Act.put, List.setIfInBounds_toArray, List.set_cons_zero, List.set_cons_succ]))
                  show wpOrd _ _ _ _ _ [] _ _ _
                  unfold wpOrd
                  have B8 := bel_trans (bel_trans B6 L7) L8
                  clear P6 L7 L8
                  go_wp2
                  go_roundw
                  case rel => exact ⟨(i : Int) + 1, by omega, by omega, by go_num, B8⟩
                  case measure => simp [intOf]; omega
                · obtain rfl : y = 4 := by omega
                  clear h4 h0 h5 hy1 hy2
                  have P6 : Blk (w5.alloc (.cells zN.cells 50)) w5.heap.size zN.cells 50 := Blk.new w5 _ _
                  have L6 : Below w5.heap.size w5 (w5.alloc (.cells zN.cells 50)) := by go_grown
                  have hiw := infoN zN
                  go_upto_region 18 with fail
                  generalize (w5.alloc (.cells zN.cells 50)) = w6 at P6 L6 ⊢
                  have B6 := bel_trans B5 L6
                  clear B5
                  generalize w5.heap.size = pw at P6 ⊢
                  refine held_region (fun W => Blk W pw zN.cells 50) [] [(0, 0), (1, 0), (3, 1), (2, 2), (4, 2), (5, 0)] (by kernel_rfl) (by kernel_rfl) (by kernel_rfl) rfl (fun _ _ d _ _ h => by cases d <;> exact h) P6.drew ?_
                  repeat (first
                    | (refine ord_run0_ex rfl (by rfl) ?_
                       apply Exists.intro
                       refine ⟨fun w0 => ?_, ?_⟩
                       · go_simp; rfl
                       simp only [Act.put, List.setIfInBounds_toArray, List.set_cons_zero, List.set_cons_succ])
                    | (refine ord_load rfl (by rfl) 50 _ rfl pw 0 rfl zN.cells _ (fun W H => H.range) Tryz.underlying50 rfl hiw ?_; simp only [Act.put, List.setIfInBounds_toArray, List.set_cons_zero, List.set_cons_succ]))
                  refine ord_call_ex rfl (by rfl) ⟨10, #[.pointer (some ⟨w.heap.size, 0, none⟩), .int .i64 4], by go_simp, (node_zero (some ⟨w.heap.size, 0, none⟩) 4 (Or.inr (by rfl)) _).mono ?_⟩
                  rintro e w7 ⟨rfl, L7'⟩
                  have L7 : Below w6.heap.size w6 w7 := bel_seq (below_drew' (Below.refl _ w6)) L7'
                  refine ⟨_, rfl, fun _ => P6.below L7, ?_⟩
                  try simp only [Act.put, List.setIfInBounds_toArray, List.set_cons_zero, List.set_cons_succ]
                  refine ord_call_ex rfl (by rfl) ⟨9, #[.agg zN.cells, .agg zN.cells], by go_simp, (sameNode_alike zN (.slice none 0 0) [] _ (Or.inl ⟨rfl, 0, rfl⟩) (Or.inl ⟨rfl, 0, rfl⟩) (by simp)).mono ?_⟩
                  rintro e w8 ⟨rfl, L8⟩
                  refine ⟨_, rfl, fun _ => (P6.below L7).below L8, ?_⟩
                  try simp only [Act.put, List.setIfInBounds_toArray, List.set_cons_zero, List.set_cons_succ]
                  repeat (first
                    | (refine ord_run0_ex rfl (by rfl) ?_
                       apply Exists.intro
                       refine ⟨fun w0 => ?_, ?_⟩
                       · go_simp; rfl
                       simp only [Act.put, List.setIfInBounds_toArray, List.set_cons_zero, List.set_cons_succ]))
                  show wpOrd _ _ _ _ _ [] _ _ _
                  unfold wpOrd
                  have B8 := bel_trans (bel_trans B6 L7) L8
                  clear P6 L7 L8
                  go_wp2
                  go_roundw
                  case rel => exact ⟨4 + 1, by omega, by omega, by first | rfl | go_num, B8⟩
                  case measure => simp [intOf]
              · obtain rfl : y = -1 := by omega
                clear h0 h5 hy1 hy2
                have P6 : Blk (w5.alloc (.cells zN.cells 50)) w5.heap.size zN.cells 50 := Blk.new w5 _ _
                have L6 : Below w5.heap.size w5 (w5.alloc (.cells zN.cells 50)) := by go_grown
                have hiw := infoN zN
                go_upto_region 18 with fail
                generalize (w5.alloc (.cells zN.cells 50)) = w6 at P6 L6 ⊢
                have B6 := bel_trans B5 L6
                clear B5
                generalize w5.heap.size = pw at P6 ⊢
                refine held_region (fun W => Blk W pw zN.cells 50) [] [(0, 0), (1, 0), (3, 1), (2, 2), (4, 2), (5, 0)] (by kernel_rfl) (by kernel_rfl) (by kernel_rfl) rfl (fun _ _ d _ _ h => by cases d <;> exact h) P6.drew ?_
                repeat (first
                  | (refine ord_run0_ex rfl (by rfl) ?_
                     apply Exists.intro
                     refine ⟨fun w0 => ?_, ?_⟩
                     · go_simp; rfl
                     simp only [Act.put, List.setIfInBounds_toArray, List.set_cons_zero, List.set_cons_succ])
                  | (refine ord_load rfl (by rfl) 50 _ rfl pw 0 rfl zN.cells _ (fun W H => H.range) Tryz.underlying50 rfl hiw ?_; simp only [Act.put, List.setIfInBounds_toArray, List.set_cons_zero, List.set_cons_succ]))
                refine ord_call_ex rfl (by rfl) ⟨10, #[.pointer (some ⟨w.heap.size, 0, none⟩), .int .i64 (-1)], by go_simp, (node_zero (some ⟨w.heap.size, 0, none⟩) (-1) (Or.inr (by rfl)) _).mono ?_⟩
                rintro e w7 ⟨rfl, L7'⟩
                have L7 : Below w6.heap.size w6 w7 := bel_seq (below_drew' (Below.refl _ w6)) L7'
                refine ⟨_, rfl, fun _ => P6.below L7, ?_⟩
                try simp only [Act.put, List.setIfInBounds_toArray, List.set_cons_zero, List.set_cons_succ]
                refine ord_call_ex rfl (by rfl) ⟨9, #[.agg zN.cells, .agg zN.cells], by go_simp, (sameNode_alike zN (.slice none 0 0) [] _ (Or.inl ⟨rfl, 0, rfl⟩) (Or.inl ⟨rfl, 0, rfl⟩) (by simp)).mono ?_⟩
                rintro e w8 ⟨rfl, L8⟩
                refine ⟨_, rfl, fun _ => (P6.below L7).below L8, ?_⟩
                try simp only [Act.put, List.setIfInBounds_toArray, List.set_cons_zero, List.set_cons_succ]
                repeat (first
                  | (refine ord_run0_ex rfl (by rfl) ?_
                     apply Exists.intro
                     refine ⟨fun w0 => ?_, ?_⟩
                     · go_simp; rfl
                     simp only [Act.put, List.setIfInBounds_toArray, List.set_cons_zero, List.set_cons_succ]))
                show wpOrd _ _ _ _ _ [] _ _ _
                unfold wpOrd
                have B8 := bel_trans (bel_trans B6 L7) L8
                clear P6 L7 L8
                go_wp2
                go_roundw
                case rel => exact ⟨(-1) + 1, by omega, by omega, by first | rfl | go_num, B8⟩
                case measure => simp [intOf]
            · have hend : ¬ y ≤ 4 := h5
              have D5 := HB.out w5 B5
              obtain ⟨na, nc, hnv⟩ := own_shape D5.other.net
              have s5 := D5.other.slice
              have hlG := HG.out.net
              go_upto_region 20 with fail
              refine held_region (fun W => W.cell? ⟨g2, 1128, none⟩ = some nt') [] [(0, 0), (2, 0), (3, 0), (4, 0), (5, 1), (1, 2), (6, 2), (7, 0)] (by kernel_rfl) (by kernel_rfl) (by kernel_rfl) rfl (fun _ _ d _ _ h => by cases d <;> exact h) s5 ?_
              repeat (first
                | (refine ord_run0_ex rfl (by rfl) ?_
                   apply Exists.intro
                   refine ⟨fun w0 => ?_, ?_⟩
                   · go_simp; rfl
                   simp only [Act.put, List.setIfInBounds_toArray, List.set_cons_zero, List.set_cons_succ])
                | (refine ord_run1_ex rfl (by rfl) ?_
                   apply Exists.intro
                   refine ⟨fun w0 hC => ?_, ?_⟩
                   · have z1 := hC; clear hC; go_simp; rfl
                   simp only [Act.put, List.setIfInBounds_toArray, List.set_cons_zero, List.set_cons_succ]))
              refine ord_call_ex rfl (by rfl) ⟨12, #[.pointer (some ⟨w.heap.size, 0, none⟩)], by go_simp, (net_any D5.one.drew hlG).mono ?_⟩
              rintro e w7 ⟨n7, rfl, own7, L7'⟩
              have L7 : Below w5.heap.size w5 w7 := bel_seq (below_drew' (Below.refl _ w5)) L7'
              have D7 := D5.keep L7
              refine ⟨_, rfl, fun _ => D7.other.slice, ?_⟩
              try simp only [Act.put, List.setIfInBounds_toArray, List.set_cons_zero, List.set_cons_succ]
              refine ord_call_ex rfl (by rfl) ⟨11, #[n7, nt'], by go_simp, (sameNet_any c.net n7 nt' _ _ w7 own7 D7.other.net hlG).mono ?_⟩
              rintro e w8 ⟨rfl, L8⟩
              refine ⟨_, rfl, fun _ => (D7.keep L8).other.slice, ?_⟩
              try simp only [Act.put, List.setIfInBounds_toArray, List.set_cons_zero, List.set_cons_succ]
              repeat (first
                | (refine ord_run0_ex rfl (by rfl) ?_
                   apply Exists.intro
                   refine ⟨fun w0 => ?_, ?_⟩
                   · go_simp; rfl
                   simp only [Act.put, List.setIfInBounds_toArray, List.set_cons_zero, List.set_cons_succ]))
              show wpOrd _ _ _ _ _ [] _ _ _
              unfold wpOrd
              go_wp2
              go_ret
              exact ⟨rfl, bel_trans (bel_trans (bel_trans B4 B5) L7) L8⟩
  · have HN := new_bad liar hl
    have HR := rnew_bad liar hl
    clear hl hs
    go_enter Tryz.func3, Tryz.ntmps3
    go_wp2_with (first
      | (go_at_call 4; refine (HN _).mono ?_; rintro e w' ⟨rfl, hw'⟩; obtain rfl := hw'.symm)
      | (go_at_call 5; refine (HR _).mono ?_; rintro e w' ⟨rfl, hw'⟩; obtain rfl := hw'.symm)
      | (go_at_call 6; refine (lalive_any _).mono ?_; rintro e w3 ⟨rfl, L3⟩))
    go_ret
    exact ⟨rfl, L3⟩
end Go.Proofs.YtmmgaonlmpajbacGreat
