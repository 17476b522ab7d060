/-
  The document's node at work: all; opened.
  The document's crowd: Do, of every act, comes to what the landed one's comes to.
  The statement CrowdRuns.
-/
import Derived.Test.YtmmgaonlmpajbacDoc3a
import Derived.Test.YtmmgaonlmpajbacDoc3b
import Derived.Test.YtmmgaonlmpajbacNodeB
import Derived.Test.YtmmgaonlmpajbacTurnD
import Derived.Deep.LoopGhost
import Derived.Test.YtmmgaonlmpajbacRDoC
import Derived.Test.YtmmgaonlmpajbacRDoB
import Derived.Test.YtmmgaonlmpajbacRDoV
import Derived.Test.YtmmgaonlmpajbacRDoR
import Derived.Test.YtmmgaonlmpajbacRunL
namespace Go.Proofs.Ytmmgaonlmpajbac
open Go.RowKit

theorem rone_any {bb : Nat} {w : World} {g who : Nat} {a : At} {q sd : Value} (H : Sr bb w g 106 who a q sd) (F : FI a) : Calls Try.prog 81 #[.pointer (some ⟨g, 0, none⟩)] w (ROne bb who a w g) := by
  by_cases h : a.n.step = 0
  · exact rone_w0 H F h
  · exact rone_w1 H F h

set_option maxRecDepth 100000 in
set_option maxHeartbeats 8000000 in
theorem rall_any {bb : Nat} {w : World} {g who : Nat} {a : At} {q sd : Value} (H : Sr bb w g 106 who a q sd) (F : FI a) :
    Calls Try.prog 57 #[.pointer (some ⟨g, 0, none⟩)] w fun e w' => e = .returned (.tuple #[]) ∧ ∃ q' sd', InR bb w g who (follow who a) q' sd' w' := by
  go_enter Try.func57, Try.ntmps57
  go_wp2
  go_loopg [2] 1000 (fun gg _ wr => ∃ b q' sd', b.n.mu ≤ gg ∧ Hid (FI b ∧ follow who a = follow who b) ∧ InR bb w g who b q' sd' wr)
  case atStart => exact ⟨a, q, sd, by have := F.few; omega, ⟨F, rfl⟩, H, Below.refl _ _⟩
  case round =>
    obtain ⟨b, q', sd', hmu, hF, hC⟩ := hrel
    have FB := hF.out.1
    have hone := rone_any hC.1 FB
    cases ho : one who b with
    | some c =>
      have hb2 := FB.one ho
      have hone2 : Calls Try.prog 81 #[.pointer (some ⟨g, 0, none⟩)] wr fun e w' => e = .returned (.bool true) ∧ ∃ q2 sd2, InR bb w g who c q2 sd2 w' := by
        refine hone.mono ?_
        rintro e w' (⟨h1, _⟩ | ⟨c', h1, rfl, q2, sd2, h2⟩)
        · rw [ho] at h1; cases h1
        · rw [ho] at h1
          obtain rfl := Option.some.inj h1
          exact ⟨rfl, q2, sd2, h2.1, bel_seq hC.2 h2.2⟩
      have HN : Hid (FI c ∧ follow who a = follow who c) := ⟨hb2.1, hF.out.2.trans (follow_some FB ho)⟩
      have hmu2 := hb2.2
      clear hone ho hb2 hF FB
      go_wp2_with (first | (go_at_call 81; refine hone2.mono ?_; rintro e w1 ⟨rfl, q2, sd2, hC2⟩))
      go_roundg c.n.mu
      case measure => omega
      case rel => exact ⟨_, q2, sd2, Nat.le_refl _, HN, hC2⟩
    | none =>
      have hone0 : Calls Try.prog 81 #[.pointer (some ⟨g, 0, none⟩)] wr fun e w' => e = .returned (.bool false) ∧ ∃ q2 sd2, InR bb w g who b q2 sd2 w' := by
        refine hone.mono ?_
        rintro e w' (⟨_, rfl, q2, sd2, h2⟩ | ⟨c', h1, _⟩)
        · exact ⟨rfl, q2, sd2, h2.1, bel_seq hC.2 h2.2⟩
        · rw [ho] at h1; cases h1
      have hE : Hid (follow who a = b) := hF.out.2.trans (follow_none ho)
      clear hone ho hF FB
      go_wp2_with (first | (go_at_call 81; refine hone0.mono ?_; rintro e w1 ⟨rfl, q2, sd2, hC2⟩))
      go_end0
      rw [hE.out]
      exact ⟨rfl, q2, sd2, hC2⟩
end Go.Proofs.Ytmmgaonlmpajbac
namespace Go.Proofs.Ytmmgaonlmpajbac
open Go.RowKit

theorem rall_here : RAll := fun _ _ _ _ _ _ _ H F => rall_any H F

theorem rsubs (RA : RAll) {w : World} {g : Nat} {c : Cw} {q : Nat → Value} {nt : Value} (G : CG c) (h6 : c.acts ≠ 600) (H : CwAt w g 84 c q nt) (a : Ac) (hk : a.kind = 1) :
    Calls Try.prog 21 #[.pointer (some ⟨g, 0, none⟩), .agg (acArr a)] w (DidR w g nt (subC c.more a.node a.value).1 (subC c.more a.node a.value).2) := by
  have G1 := G.more h6
  have hlt : c.acts < 600 := by have := G.acts; omega
  unfold subC
  cases hi : win a.node 0 3
  · rw [if_neg (by simp)]
    exact rdo_submit_range H a hlt rfl hk hi
  · rw [if_pos rfl]
    have hi' := win_iff.1 hi
    have h4 : a.node.toNat < 4 := by omega
    have hw := G1.nd a.node.toNat h4
    have ei : a.node = (a.node.toNat : Int) := by omega
    by_cases hs : subCode (c.more.nd a.node.toNat) a.value = 0
    · rw [if_pos hs]
      have hy : win a.value 1 9 = true := by
        cases hy : win a.value 1 9
        · unfold subCode at hs; rw [hy] at hs; simp at hs
        · rfl
      have hq6 : (c.more.nd a.node.toNat).queue.length < 6 := by
        unfold subCode at hs
        rw [if_pos hy] at hs
        by_cases h6 : (c.more.nd a.node.toNat).queue.length = 6
        · rw [if_pos h6] at hs; cases hs
        · have := hw.good.qlen; omega
      exact rdo_submit_yes H a hlt rfl hk a.node.toNat h4 _ (submit_whole hw a.node.toNat hy hq6).2 G1.net ei (fun W q hg ho => rsubmit_yes RA hw.good hw.beyond h4 hy hq6 q g W hg (own_ints ho))
    · rw [if_neg hs]
      exact rdo_submit_no H a hlt rfl hk a.node.toNat h4 _ hs ei (fun W q _ ho => rsubmit_no hw.good h4 hs q W (own_ints ho))
theorem rtimes (RA : RAll) {w : World} {g : Nat} {c : Cw} {q : Nat → Value} {nt : Value} (G : CG c) (h6 : c.acts ≠ 600) (H : CwAt w g 84 c q nt) (a : Ac) (hk : a.kind = 4) :
    Calls Try.prog 21 #[.pointer (some ⟨g, 0, none⟩), .agg (acArr a)] w (DidR w g nt (timeC c.more a.node).1 (timeC c.more a.node).2) := by
  have G1 := G.more h6
  have hlt : c.acts < 600 := by have := G.acts; omega
  unfold timeC
  cases hi : win a.node 0 3
  · rw [if_neg (by simp)]
    exact rdo_time_range H a hlt rfl hk hi
  · rw [if_pos rfl]
    have hi' := win_iff.1 hi
    have h4 : a.node.toNat < 4 := by omega
    have hw := G1.nd a.node.toNat h4
    exact rdo_time_yes H a hlt rfl hk a.node.toNat h4 _ (time_whole hw a.node.toNat).2 G1.net (by omega) (fun W q hg ho => rtime_yes RA hw.good hw.beyond h4 q g W hg ho)
theorem rlies (RA : RAll) {w : World} {g : Nat} {c : Cw} {q : Nat → Value} {nt : Value} (G : CG c) (h6 : c.acts ≠ 600) (H : CwAt w g 84 c q nt) (a : Ac) (hk : a.kind = 5) :
    Calls Try.prog 21 #[.pointer (some ⟨g, 0, none⟩), .agg (acArr a)] w (DidR w g nt (lieC c.more a.node a.word).1 (lieC c.more a.node a.word).2) := by
  have G1 := G.more h6
  have hlt : c.acts < 600 := by have := G.acts; omega
  unfold lieC
  by_cases hc : goodC a.word.k a.word.f a.word.h a.word.r a.word.v a.word.x = 0
  · rw [if_pos hc]
    by_cases hf : a.word.f = c.more.liar
    · rw [if_pos hf]
      cases hi : win a.node 0 3
      · rw [if_neg (by simp)]
        exact rdo_lie_range H a hlt rfl hk hc hf hi
      · rw [if_pos rfl]
        have hi' := win_iff.1 hi
        have h4 : a.node.toNat < 4 := by omega
        have hw := G1.nd a.node.toNat h4
        unfold hearC
        rw [if_pos hc]
        exact rdo_lie_yes H a hlt rfl hk a.node.toNat h4 _ (hear_whole hw a.node.toNat hc).2 G1.net (by omega) hc hf (fun W q hg ho => rhear_yes RA hw.good hw.beyond h4 hc q g W hg (own_ints ho))
    · rw [if_neg hf]
      exact rdo_lie_true H a hlt rfl hk hc hf
  · rw [if_neg hc]
    exact rdo_lie_bad H a hlt rfl hk _ rfl hc
theorem rdelivers (RA : RAll) {w : World} {g : Nat} {c : Cw} {q : Nat → Value} {nt : Value} (G : CG c) (h6 : c.acts ≠ 600) (H : CwAt w g 84 c q nt) (a : Ac) (hk : a.kind = 2) :
    Calls Try.prog 21 #[.pointer (some ⟨g, 0, none⟩), .agg (acArr a)] w (DidR w g nt (deliverC c.more a.n).1 (deliverC c.more a.n).2) := by
  have G1 := G.more h6
  have hlt : c.acts < 600 := by have := G.acts; omega
  cases hn : win a.n 0 ((c.more.net.length : Int) - 1)
  · have e : deliverC c.more a.n = (c.more, refused 4) := by
      unfold deliverC
      by_cases h0 : 0 ≤ a.n
      · rw [letter_no hn h0]
      · split
        · rw [if_neg h0]
        · rfl
    rw [e]
    exact rdo_deliver_none H a hlt rfl hk hn G1.net
  · have hn' := win_iff.1 hn
    have hkl : a.n.toNat < c.more.net.length := by omega
    obtain ⟨who, lv, hx⟩ : ∃ who lv, c.more.net[a.n.toNat]? = some (who, lv) := ⟨_, _, List.getElem?_eq_getElem hkl⟩
    have e : deliverC c.more a.n = hearC c.more who lv := by
      unfold deliverC
      rw [hx]
      exact if_pos hn'.1
    rw [e]
    have h4 : who < 4 := G1.dest (who, lv) (List.mem_of_getElem? hx)
    have hw := G1.nd who h4
    unfold hearC
    by_cases hc : goodC lv.k lv.f lv.h lv.r lv.v lv.x = 0
    · rw [if_pos hc]
      exact rdo_deliver_yes H a hlt rfl hk who h4 _ (hear_whole hw who hc).2 G1.net a.n.toNat lv hx (by omega) (fun W q hg ho => rhear_yes RA hw.good hw.beyond h4 hc q g W hg (own_ints ho))
    · rw [if_neg hc]
      exact rdo_deliver_no H a hlt rfl hk who h4 G1.net _ hc a.n.toNat lv hx (by omega) (fun W q _ ho => rhear_no hw.good h4 rfl hc q W (own_ints ho))
theorem rdrops {w : World} {g : Nat} {c : Cw} {q : Nat → Value} {nt : Value} (G : CG c) (h6 : c.acts ≠ 600) (H : CwAt w g 84 c q nt) (a : Ac) (hk : a.kind = 3) :
    Calls Try.prog 21 #[.pointer (some ⟨g, 0, none⟩), .agg (acArr a)] w (DidR w g nt (dropC c.more a.n).1 (dropC c.more a.n).2) := by
  have G1 := G.more h6
  have hlt : c.acts < 600 := by have := G.acts; omega
  unfold dropC
  cases hn : win a.n 0 ((c.more.net.length : Int) - 1)
  · rw [if_neg (by simp)]
    exact rdo_drop_none H a hlt rfl hk hn G1.net
  · rw [if_pos rfl]
    have hn' := win_iff.1 hn
    exact rdo_drop_yes H a hlt rfl hk G1.net a.n.toNat (c.more.net.length - 1 - a.n.toNat) (by omega) (by omega)

theorem rdo_any (RA : RAll) {w : World} {g : Nat} {c : Cw} {q : Nat → Value} {nt : Value} (G : CG c) (H : CwAt w g 84 c q nt) (a : Ac) :
    Calls Try.prog 21 #[.pointer (some ⟨g, 0, none⟩), .agg (acArr a)] w (DidR w g nt (doC c a).1 (doC c a).2) := by
  unfold doC
  by_cases h6 : c.acts = 600
  · rw [if_pos h6]
    exact (rdo_full H a h6).mono fun e w' h => didR_of H h
  · rw [if_neg h6]
    have G1 := G.more h6
    have hlt : c.acts < 600 := by have := G.acts; omega
    by_cases k1 : a.kind = 1
    · rw [if_pos k1]; exact rsubs RA G h6 H a k1
    · rw [if_neg k1]
      by_cases k2 : a.kind = 2
      · rw [if_pos k2]; exact rdelivers RA G h6 H a k2
      · rw [if_neg k2]
        by_cases k3 : a.kind = 3
        · rw [if_pos k3]; exact rdrops G h6 H a k3
        · rw [if_neg k3]
          by_cases k4 : a.kind = 4
          · rw [if_pos k4]; exact rtimes RA G h6 H a k4
          · rw [if_neg k4]
            by_cases k5 : a.kind = 5
            · rw [if_pos k5]; exact rlies RA G h6 H a k5
            · rw [if_neg k5]
              by_cases k6 : a.kind = 6
              · rw [if_pos k6]; exact rdo_read H a hlt rfl k6 G1.liar
              · rw [if_neg k6]; exact rdo_none H a hlt rfl ⟨k1, k2, k3, k4, k5, k6⟩
end Go.Proofs.Ytmmgaonlmpajbac
namespace Go.Proofs.Ytmmgaonlmpajbac
open Go.RowKit

set_option maxHeartbeats 2000000 in
theorem run_bad (liar : Int) (h : ¬ (-1 ≤ liar ∧ liar ≤ 3)) (s : Value) (w : World) : Calls Try.prog 14 #[.int .i64 liar, s] w fun e w' => e = .returned (.tuple #[.slice none 0 0, .int .i64 2]) ∧ w' = w := by
  have hn := new_bad liar h
  clear h
  go_enter Try.func14, Try.ntmps14
  go_wp2_with (first | (go_at_call 15; refine (hn _).mono ?_; rintro e w' ⟨rfl, hw'⟩; obtain rfl := hw'.symm))
  go_ret2
  exact ⟨rfl, rfl⟩
set_option maxRecDepth 100000 in
set_option maxHeartbeats 2000000 in
theorem run_full (liar : Int) (h : -1 ≤ liar ∧ liar ≤ 3) (l : List Ac) (s : Value) (w : World) (hs : ActsAt w s l) (hlen : 600 < l.length) (hbig : l.length < 4611686018427387904) : Calls Try.prog 14 #[.int .i64 liar, s] w fun e w' => e = .returned (.tuple #[.slice none 0 0, .int .i64 5]) ∧ Below w.heap.size w w' := by
  have hn := new_good liar h
  obtain ⟨sa, sc, hsv⟩ := hs.len
  subst hsv
  have hgt : (l.length : Int) > 600 := by omega
  clear h hs
  go_enter Try.func14, Try.ntmps14
  go_wp2_with (first | (go_at_call 15; refine (hn _).mono ?_; rintro e w1 ⟨rfl, H1, L1⟩))
  go_ret2
  exact ⟨rfl, L1⟩

def act99 : Ac := ⟨99, 0, 0, 0, ⟨0, 0, 0, 0, 0, 0⟩, fun _ => 0⟩
theorem acts_one (W : World) : ActsAt (W.alloc (.cells (acArr act99) 27)) (.slice (some ⟨W.heap.size, 0, none⟩) 1 1) [act99] := by
  refine Or.inr ⟨W.heap.size, 0, 1, rfl, fun i x hx => ?_⟩
  have B : Blk (W.alloc (.cells (acArr act99) 27)) W.heap.size (acArr act99) 27 := Blk.new W _ _
  cases i with
  | zero => obtain rfl : act99 = x := by simpa using hx
            exact B.range
  | succ i => simp at hx

set_option maxRecDepth 100000 in
set_option maxHeartbeats 8000000 in
theorem crowdRuns_any (liar : Int) (l : List Ac) (s : Value) (w : World) (hs : ActsAt w s l) (hlen : l.length * 112 ≤ 140737488355328) :
    Calls Try.prog 7 #[.int .i64 liar, s] w fun e w' => e = .returned (.bool true) ∧ Below w.heap.size w w' := by
  obtain ⟨sa, sc, hsv⟩ := hs.len
  subst hsv
  by_cases hl : -1 ≤ liar ∧ liar ≤ 3
  · by_cases h600 : 600 < l.length
    · have hgt : (l.length : Int) > 600 := by omega
      have HR := fun W s' (h : ActsAt W s' l) => run_full liar hl l s' W h h600 (by omega)
      have HRun : Hid _ := HR
      have HN := rnew_good liar hl
      clear hl HR
      go_enter Try.func7, Try.ntmps7
      go_upto_region 2 with (first
        | (at_builtin; refine wpList_copy_acts rfl _ rfl rfl _ l rfl hs (by omega) ?_; intro v1 w1 A1 L1)
        | (go_at_call 14; refine (HRun.out w1 v1 A1).mono ?_; rintro e w2 ⟨rfl, L2⟩))
      have L12 := bel_trans L1 L2
      clear hs HRun
      go_upto_region 4 with (first
        | (go_at_call 14; refine (run_any 0 (by omega) [act99] _ _ (acts_one w2) (by simp)).mono ?_; rintro e w3 ⟨b3, he3, _, _, L3'⟩; obtain rfl : e = .returned (.tuple #[.slice (some ⟨b3, 0, none⟩) 1 1, .int .i64 0]) := he3; have L3 : Below w2.heap.size w2 w3 := bel_trans (by go_grown) L3')
        | (go_at_call 19; refine (HN _).mono ?_; rintro e w4 ⟨rfl, H4, L4⟩))
      go_wp2_with (first
        | (go_at_call 20; refine (lalive_any _).mono ?_; rintro e w5 ⟨rfl, L5⟩))
      go_ret
      exact ⟨rfl, bel_trans (bel_trans (bel_trans L12 L3) L4) L5⟩
    · have hle : ¬ ((l.length : Int) > 600) := by omega
      have HR := fun W s' (h : ActsAt W s' l) => run_any liar hl l s' W h (by omega)
      have HRun : Hid _ := HR
      have HN := rnew_good liar hl
      have HS : Hid (∀ W, Below w.heap.size w W → ActsAt W (.slice sa l.length sc) l) := fun W hW => hs.keep hW
      have HL : Hid (-1 ≤ liar ∧ liar ≤ 3) := hl
      clear hl HR
      go_enter Try.func7, Try.ntmps7
      go_upto_region 2 with (first
        | (at_builtin; refine wpList_copy_acts rfl _ rfl rfl _ l rfl hs (by omega) ?_; intro v1 w1 A1 L1)
        | (go_at_call 14; refine (HRun.out w1 v1 A1).mono ?_; rintro e w2 ⟨b2, rfl, R2, hb2, L2⟩))
      have L12 := bel_trans L1 L2
      clear hs HRun L1 L2 A1
      go_upto_region 4 with (first
        | (go_at_call 14; refine (run_any 0 (by omega) [act99] _ _ (acts_one w2) (by simp)).mono ?_; rintro e w3 ⟨b3, he3, _, _, L3'⟩; obtain rfl : e = .returned (.tuple #[.slice (some ⟨b3, 0, none⟩) 1 1, .int .i64 0]) := he3; have L3 : Below w2.heap.size w2 w3 := bel_trans (by go_grown) L3')
        | (go_at_call 19; refine (HN _).mono ?_; rintro e w4 ⟨rfl, H4, L4⟩))
      have R3 := R2.below L3
      have B3 := bel_trans L12 L3
      clear R2 L12 L3 HN
      have hs3 := B3.size
      go_upto_region 12 with (first
        | (go_at_call 20; refine (lalive_any _).mono ?_; rintro e w5 ⟨rfl, L5⟩))
      have H5 := H4.keep L5
      have L35 := bel_trans L4 L5
      clear H4 L4 L5
      have HR3 : Hid (∀ W, Below w3.heap.size w3 W → ∀ j, j < l.length → ∀ D, repC liar l j = D → D.size = 6 → W.rangeAt b2 (j * 6) D.toList) := fun W hW j hj D hD hs => rep_range (R3.below hW) hj hD hs
      clear R3
      go_wp2
      go_loopw [11] (fun i V => ∃ (k : Nat) (q : Nat → Value) (nt : Value), k ≤ l.length ∧ i = .int .i64 (k : Int) ∧ CwAt V w3.heap.size 84 (playC liar l k) q nt ∧ (∀ b, nt.ownBlock = some b → w3.heap.size ≤ b) ∧ Below w3.heap.size w3 V) (fun i _ => l.length - (intOf i).toNat)
      case atStart => exact ⟨0, _, _, by omega, rfl, H5, (fun b hb => by cases hb), L35⟩
      case round =>
        clear H5 L35
        obtain ⟨k, q, nt, hk, rfl, H6, hnt, B6⟩ := hrel
        by_cases hlt : k < l.length
        · have hkI : (k : Int) < (l.length : Int) := by omega
          have hx : l[k]? = some l[k] := List.getElem?_eq_getElem hlt
          obtain ⟨ab, ao, cap, hv, hr⟩ := (HS.out _ (bel_trans B3 B6)).lies hx
          injection hv with hv1 hv2 hv3
          subst hv1 hv3
          have hG := playC_good HL.out l k
          have HP : Hid (playC liar l (k + 1) = (doC (playC liar l k) l[k]).1) := playC_succ hx
          have hdo := fun W q nt (hW : CwAt W w3.heap.size 84 (playC liar l k) q nt) => rdo_any rall_here hG hW l[k]
          obtain ⟨code, nn, f, hrep⟩ := do_isRep (playC liar l k) l[k]
          have hrc : repC liar l k = rcells code nn f := by unfold repC; rw [hx]; exact hrep
          rw [hrep, ← HP.out] at hdo
          have HA : Hid (∀ W, Below w3.heap.size w3 W → W.rangeAt ab (ao + k * 14) (acArr l[k]).toList) := fun W hW => by
            obtain ⟨b', o', cap', hv', hr'⟩ := (HS.out W (bel_trans B3 hW)).lies hx
            injection hv' with hv1 hv2 hv3
            injection hv1 with hv1
            injection hv1 with hv1 hv4 _
            rw [hv1, hv4]; exact hr'
          have HX : Hid (∀ W, Below w3.heap.size w3 W → W.rangeAt b2 (k * 6) (rcells code nn f).toList) := fun W hW => HR3.out W hW k hlt _ hrc rfl
          have HDo : Hid _ := hdo
          clear hdo hrep hx hG HP hrc hr
          generalize l[k] = x at HDo HA
          have hia : (Try.prog.info? 27).map (·.size) = some (acArr x).size := by show _ = some 14; kernel_rfl
          have heq := eq_rep code nn f
          have hir := info_rep code nn f
          generalize rcells code nn f = X at HDo HX heq hir
          rename World => w6
          go_upto_region 15 with fail
          refine held_region (fun W => W.rangeAt b2 (k * 6) X.toList ∧ W.rangeAt ab (ao + k * 14) (acArr x).toList) [] [(0, 0), (1, 0), (2, 0), (3, 1), (4, 0), (5, 0), (6, 0), (7, 0), (8, 1), (9, 2), (10, 0)] (by kernel_rfl) (by kernel_rfl) (by kernel_rfl) rfl (fun _ _ d _ _ h => by cases d <;> exact h) ⟨HX.out _ (below_drew' B6), HA.out _ (below_drew' B6)⟩ ?_
          repeat (first
            | (refine ord_run0_ex rfl (by rfl) ?_
               apply Exists.intro
               refine ⟨fun w0 => ?_, ?_⟩
               · go_simp; rfl
               simp only [Act.put, List.setIfInBounds_toArray, List.set_cons_zero, List.set_cons_succ])
            | (refine ord_load rfl (by rfl) 35 _ rfl b2 (k * 6) (by first | rfl | simp) X _ (fun W H => H.1) Try.underlying35 rfl hir ?_; simp only [Act.put, List.setIfInBounds_toArray, List.set_cons_zero, List.set_cons_succ])
            | (refine ord_load rfl (by rfl) 27 _ rfl ab (ao + k * 14) (by first | rfl | simp) (acArr x) _ (fun W H => H.2) Try.underlying27 rfl hia ?_; simp only [Act.put, List.setIfInBounds_toArray, List.set_cons_zero, List.set_cons_succ]))
          refine ord_call_ex rfl (by rfl) ⟨21, #[.pointer (some ⟨w3.heap.size, 0, none⟩), .agg (acArr x)], by go_simp, (HDo.out w6.drew q nt H6.drew).mono ?_⟩
          rintro e w7 ⟨rfl, q7, nt7, H7, T7, N7⟩
          have B7 : Below w3.heap.size w3 w7 := bel_seq (below_drew' B6) (T7.bel (Nat.le_refl _) hnt B6.size)
          refine ⟨_, rfl, fun _ => ⟨HX.out _ B7, HA.out _ B7⟩, ?_⟩
          try simp only [Act.put, List.setIfInBounds_toArray, List.set_cons_zero, List.set_cons_succ]
          repeat (first
            | (refine ord_run0_ex rfl (by rfl) ?_
               apply Exists.intro
               refine ⟨fun w0 => ?_, ?_⟩
               · go_simp; rfl
               simp only [Act.put, List.setIfInBounds_toArray, List.set_cons_zero, List.set_cons_succ]))
          show wpOrd _ _ _ _ _ [] _ _ _
          unfold wpOrd
          have hs6 := B6.size
          go_wp2
          go_roundw
          case rel =>
            refine ⟨k + 1, q7, nt7, by omega, by go_num, H7, fun b hb => ?_, B7⟩
            rcases N7 with h | h
            · exact hnt b (by rw [← h]; exact hb)
            · have h1 := h b hb
              have h2 : w6.drew.heap.size = w6.heap.size := rfl
              omega
          case measure => simp [intOf]; omega
        · have hkI : ¬ (k : Int) < (l.length : Int) := by omega
          go_wp2
          go_ret
          exact ⟨rfl, bel_trans B3 B6⟩
  · have HR := run_bad liar hl
    have HN := rnew_bad liar hl
    clear hl
    go_enter Try.func7, Try.ntmps7
    go_upto_region 2 with (first
      | (at_builtin; refine wpList_copy_acts rfl _ rfl rfl _ l rfl hs (by omega) ?_; intro v1 w1 A1 L1)
      | (go_at_call 14; refine (HR _ _).mono ?_; rintro e w2 ⟨rfl, hw2⟩; obtain rfl := hw2.symm))
    obtain ⟨w2, hw2⟩ : ∃ w2, w2 = w1 := ⟨_, rfl⟩
    subst hw2
    clear hs HR
    go_upto_region 4 with (first
      | (go_at_call 14; refine (run_any 0 (by omega) [act99] _ _ (acts_one w2) (by simp)).mono ?_; rintro e w3 ⟨b3, he3, _, _, L3'⟩; obtain rfl : e = .returned (.tuple #[.slice (some ⟨b3, 0, none⟩) 1 1, .int .i64 0]) := he3; have L3 : Below w2.heap.size w2 w3 := bel_trans (by go_grown) L3')
      | (go_at_call 19; refine (HN _).mono ?_; rintro e w' ⟨rfl, hw'⟩; obtain rfl := hw'.symm))
    go_wp2_with (first
      | (go_at_call 20; refine (lalive_any _).mono ?_; rintro e w5 ⟨rfl, L5⟩))
    go_ret
    exact ⟨rfl, bel_trans (bel_trans L1 L3) L5⟩
end Go.Proofs.Ytmmgaonlmpajbac
