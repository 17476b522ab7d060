/-
  The statement TopMemory.
-/
import Derived.Test.YtmmgaonlmpajbacRunsLaw
import Derived.Test.YtmmgaonlmpajbacTPlayG
import Derived.Test.YtmmgaonlmpajbacTwo
namespace Go.Proofs.Ytmmgaonlmpajbac
open Go.RowKit

theorem field_queue (n : NI) (W : World) : Sem.run Try.prog (Instr.field 61 (.agg n.cells) 10) W = .ok n.q W := by show _ = _; kernel_rfl
def noLe : Array Value := #[.int .i64 (-1), .int .i64 0, .int .i64 0, .int .i64 0, .int .i64 0, .int .i64 0, .int .i64 0]
theorem build_noLe (W : World) : Sem.run Try.prog (Instr.build 49 #[(0, .int .i64 (-1))]) W = .ok (.agg noLe) W := by show _ = _; kernel_rfl
/-- A row that may be written over, behind all that was there. -/
def Spare (W w : World) (sl : Value) (e : TypeId) (size n : Nat) : Prop := n = 0 ∨ ∃ b cap C, sl = .slice (some ⟨b, 0, none⟩) n cap ∧ w.heap.size ≤ b ∧ Blk W b C e ∧ n * size ≤ C.size
theorem spare_own {W w : World} {e : TypeId} {size n : Nat} {v : Value} {xs : List Value} (h : W.ownsRow w.heap.size e size v n xs) : Spare W w v e size n := by
  rcases h.2 with ⟨_, h0⟩ | ⟨g, cap, cur, hv, hb, hh, hn, _, hs, _⟩
  · exact Or.inl h0
  · refine Or.inr ⟨g, cap, cur, hv, hb, hh, ?_⟩
    rw [hs]
    exact Nat.mul_le_mul_right _ hn
theorem wpList_store_spare {ops : Array Oper} {rest : List Oper} {op : Oper} {a : Act} {V : World} {Q : Exit → Act → World → Prop} (hgd : op.guard = none) (e : TypeId) (x y : Operand) (ho : op.op = .store e x y)
    (b k size n : Nat) (D : Array Value) (C : Array Value) (hx : a.eval x = .pointer (some ⟨b, k * size, none⟩)) (hy : a.eval y = .agg D) (hD : D.size = size) (hk : k < n) (hB : Blk V b C e) (hs : n * size ≤ C.size) (hty : (Try.prog.info? e).map (·.size) = some D.size) (hone : D.all (·.oneCell') = true)
    (h : ∀ V', (∃ C', Blk V' b C' e ∧ n * size ≤ C'.size) → Kept b V V' → wpList Try.prog ops Q rest (a.put op.dst undef) V') : wpList Try.prog ops Q (op :: rest) a V := by
  have hle : k * size + size ≤ n * size := by
    have : (k + 1) * size ≤ n * size := Nat.mul_le_mul_right _ hk
    rw [Nat.add_mul, Nat.one_mul] at this; exact this
  have hl : D.toList.length = size := by rw [Array.length_toList]; exact hD
  obtain ⟨E, d1, d2, _⟩ := Blk.setMid_ex D.toList (k * size) V C hB (by rw [hl]; omega)
  exact wpList_store_mid hgd e x y ho b (k * size) D hx hy (hB.there_mid _ _ (by rw [hD]; omega)) hty hone (h _ ⟨E, d1, by omega⟩ (kept_setCells b _ _ V))

set_option maxRecDepth 100000 in
set_option maxHeartbeats 8000000 in
theorem mem_look (liar : Int) (hl : -1 ≤ liar ∧ liar ≤ 3) (l : List Ac) (k : Nat) (x : Ac) (hx : l[k]? = some x) (bx og g : Nat) (q q' : Nat → Value) (nt nt' : Value) (w0 W : World)
    (T : Two W g (playC liar l (k + 1)) q nt og (playC liar l k) q' nt') (hX : Blk W bx #[.pointer (some ⟨og, 0, none⟩)] 28) (hog : w0.heap.size ≤ og) (hno : ∀ b, nt'.ownBlock = some b → w0.heap.size ≤ b) (h0 : Below w0.heap.size w0 W) :
    Calls Try.prog 16 #[.pointer (some ⟨g, 0, none⟩), .agg (acArr x), .agg (doC (playC liar l k) x).2, .pointer (some ⟨bx, 0, none⟩)] W
      (fun e W' => e = .returned (.bool true) ∧ (∃ q2 nt2, Two W' g (playC liar l (k + 1)) q nt og (playC liar l (k + 1)) q2 nt2 ∧ ∀ b, nt2.ownBlock = some b → w0.heap.size ≤ b) ∧ Blk W' bx #[.pointer (some ⟨og, 0, none⟩)] 28 ∧ W.heap.size ≤ W'.heap.size ∧ Below w0.heap.size w0 W') := by
  obtain ⟨code, nn, f, hrep⟩ := do_isRep (playC liar l k) x
  have hdo := fun W q nt (hW : CwAt W og 70 (playC liar l k) q nt) => do_any (playC_good hl l k) hW x
  rw [hrep, ← playC_succ (liar := liar) hx] at hdo
  have HDo : Hid _ := hdo
  rw [hrep]
  have heq := eq_rep code nn f
  have hir := info_rep code nn f
  have hia : (Try.prog.info? 27).map (·.size) = some (acArr x).size := by show _ = some 14; kernel_rfl
  have G := playC_good hl l (k + 1)
  have hql : ∀ i, i < 4 → ((playC liar l (k + 1)).nd i).queue.length ≤ 6 := fun i hi => (G.nd i hi).good.qlen
  have hnl := G.net
  have La : Below W.heap.size W ((W.alloc (.cells (acArr x) 27)).alloc (.cells (rcells code nn f) 35)) := by go_grown
  have T1 := T.keep La
  have X1 := hX.below La
  have B1 := bel_trans h0 La
  have hs1 : W.heap.size ≤ ((W.alloc (.cells (acArr x) 27)).alloc (.cells (rcells code nn f) 35)).heap.size := La.size
  have BA : Blk ((W.alloc (.cells (acArr x) 27)).alloc (.cells (rcells code nn f) 35)) W.heap.size (acArr x) 27 := (Blk.new W _ _).alloc _
  have BR : Blk ((W.alloc (.cells (acArr x) 27)).alloc (.cells (rcells code nn f) 35)) (W.heap.size + 1) (rcells code nn f) 35 := Blk.new1 W _ _ _
  clear T hX h0 La hdo hrep hx G
  generalize playC liar l (k + 1) = c' at *
  generalize playC liar l k = c at *
  go_enter Try.func16, Try.ntmps16
  go_upto_region 1 with fail
  generalize ((W.alloc (.cells (acArr x) 27)).alloc (.cells (rcells code nn f) 35)) = w1 at T1 X1 B1 hs1 BA BR ⊢
  refine held_region (fun V => Blk V bx #[.pointer (some ⟨og, 0, none⟩)] 28 ∧ Blk V W.heap.size (acArr x) 27 ∧ Blk V (W.heap.size + 1) (rcells code nn f) 35) [] [(0, 1), (1, 1), (3, 1), (2, 2), (4, 0)] (by kernel_rfl) (by kernel_rfl) (by kernel_rfl) rfl (fun _ _ d _ _ h => by cases d <;> exact h) ⟨X1.drew, BA.drew, BR.drew⟩ ?_
  repeat (first
    | (refine ord_load rfl (by rfl) 27 _ rfl W.heap.size 0 rfl (acArr x) _ (fun W H => H.2.1.range) Try.underlying27 rfl hia ?_; simp only [Act.put, List.setIfInBounds_toArray, List.set_cons_zero, List.set_cons_succ])
    | (refine ord_load rfl (by rfl) 35 _ rfl (W.heap.size + 1) 0 rfl (rcells code nn f) _ (fun W H => H.2.2.range) Try.underlying35 rfl hir ?_; simp only [Act.put, List.setIfInBounds_toArray, List.set_cons_zero, List.set_cons_succ])
    | (refine ord_run1_ex rfl (by rfl) ?_
       apply Exists.intro
       refine ⟨fun w0 hC => ?_, ?_⟩
       · have e0 : w0.cell? ⟨bx, 0, none⟩ = some (.pointer (some ⟨og, 0, none⟩)) := hC.1.cell 0; clear hC; go_simp; rfl
       simp only [Act.put, List.setIfInBounds_toArray, List.set_cons_zero, List.set_cons_succ]))
  refine ord_call_ex rfl (by rfl) ?_
  apply Exists.intro
  apply Exists.intro
  refine ⟨?_, ?_⟩
  · go_simp; exact ⟨rfl, rfl⟩
  have T1d : Two w1.drew g c' q nt og c q' nt' := ⟨T1.one.drew, T1.other.drew, T1.ne, T1.apart⟩
  refine (HDo.out w1.drew q' nt' T1d.other).mono ?_
  rintro e w3 ⟨rfl, q3, nt3, H3, T3, N3⟩
  have T4 := (T1d.swap.did H3 T3 N3).swap
  have X4 := T3.blk T1d.other.blk T1d.other.net X1.drew (by decide) (by decide)
  have A4 := T3.blk T1d.other.blk T1d.other.net BA.drew (by decide) (by decide)
  have R4 := T3.blk T1d.other.blk T1d.other.net BR.drew (by decide) (by decide)
  have B4 : Below w0.heap.size w0 w3 := bel_seq (below_drew' B1) (T3.bel hog hno (by have := B1.size; exact this))
  have hs4 : W.heap.size ≤ w3.heap.size := Nat.le_trans hs1 T3.size
  have hn4 : ∀ b, nt3.ownBlock = some b → w0.heap.size ≤ b := fun b hb => by
    rcases N3 with h | h
    · exact hno b (by rw [← h]; exact hb)
    · have h1 : w1.heap.size ≤ b := h b hb
      have := B1.size; omega
  refine ⟨_, rfl, fun _ => ⟨X4, A4, R4⟩, ?_⟩
  simp only [Act.put, List.setIfInBounds_toArray, List.set_cons_zero, List.set_cons_succ]
  repeat (first
    | (refine ord_run0_ex rfl (by rfl) ?_
       apply Exists.intro
       refine ⟨fun w0 => ?_, ?_⟩
       · go_simp; first | rfl | (rw [heq]; rfl)
       simp only [Act.put, List.setIfInBounds_toArray, List.set_cons_zero, List.set_cons_succ]))
  show wpOrd _ _ _ _ _ [] _ _ _
  unfold wpOrd
  clear T1 T1d X1 BA BR A4 R4 B1 hs1 T3 N3 H3 HDo heq hir hia
  have hnet := net_any T4.one hnl
  have hiL : (Try.prog.info? 49).map (·.size) = some noLe.size := by show _ = some 7; kernel_rfl
  have hoL : noLe.all (·.oneCell') = true := by show _ = _; kernel_rfl
  go_upto_region 4 with (first
    | (go_at_call 17; refine hnet.mono ?_; clear hnet; rintro e w5 ⟨v5, rfl, O5, L5⟩))
  have S5 := spare_own O5
  obtain ⟨va, vc, hvv⟩ := own_shape O5
  subst hvv
  clear O5
  obtain ⟨N, hN⟩ : ∃ N, c'.net.length = N := ⟨_, rfl⟩
  rw [hN] at S5 ⊢
  go_wp2
  go_loopw [22] (fun i V => ∃ j : Nat, j ≤ N ∧ i = .int .i64 (j : Int) ∧ Below w3.heap.size w3 V ∧ Spare V w3 (.slice va N vc) 49 7 N) (fun i _ => N - (intOf i).toNat)
  case atStart => exact ⟨0, by omega, rfl, L5, S5⟩
  case round =>
    clear L5 S5
    obtain ⟨j, hj, rfl, hB, hS⟩ := hrel
    by_cases hjN : j < N
    · have hjI : (j : Int) < (N : Int) := by omega
      rcases hS with hS | ⟨b, cap, C, hv, hb, hC, hsz⟩
      · omega
      · injection hv with hv1 hv2 hv3
        subst hv1 hv3
        go_wp2_with (first
          | (refine wpList_store_spare rfl 49 _ _ rfl b j 7 N noLe C (by first | rfl | simp) rfl rfl hjN hC hsz hiL hoL ?_; rintro V6 ⟨C6, c1, c2⟩ K6))
        go_roundw
        case rel => exact ⟨j + 1, by omega, by go_num, K6.bel _ _ hb hB, Or.inr ⟨b, vc, C6, rfl, hb, c1, c2⟩⟩
        case measure => simp [intOf]; omega
    · have hjI : ¬ (j : Int) < (N : Int) := by omega
      clear hS hiL hoL
      go_wp2
      go_loopw [30] (fun i V => ∃ m : Nat, m ≤ 4 ∧ i = .int .i64 (m : Int) ∧ Below w3.heap.size w3 V) (fun i _ => 4 - (intOf i).toNat)
      case atStart => exact ⟨0, by omega, rfl, hB⟩
      case round =>
        clear hB
        obtain ⟨m, hm, rfl, hB⟩ := hrel
        by_cases hm4 : m < 4
        · have hmI : (m : Int) < 4 := by omega
          have hn := node_any (T4.one.keep hB) m hm4 (hql m hm4)
          rename World => w6
          have hw6 := hB.size
          go_wp2_with (first
            | (go_at_call 18; refine hn.mono ?_; clear hn; rintro e w7 ⟨q7, rfl, O7, L7⟩; have hsp := spare_own O7; obtain ⟨qa, qc, hqv⟩ := own_shape O7; subst hqv; have hfq : ∀ V, Sem.run Try.prog (Instr.field 61 (.agg ((c'.nd m).ni (.slice qa (c'.nd m).queue.length qc)).cells) 10) V = .ok (.slice qa (c'.nd m).queue.length qc) V := field_queue _))
          clear hfq O7
          have B7 := bel_trans hB L7
          clear hB L7
          have hM6 := hql m hm4
          generalize (c'.nd m).queue.length = M at hsp hM6 ⊢
          have hsp7 : Spare w7 w3 (.slice qa M qc) 3 1 M := by
            rcases hsp with h | ⟨b, cap, C, h1, h2, h3⟩
            · exact Or.inl h
            · exact Or.inr ⟨b, cap, C, h1, by omega, h3⟩
          clear hsp
          go_loopw [39] (fun i V => ∃ j : Nat, j ≤ M ∧ i = .int .i64 (j : Int) ∧ Below w3.heap.size w3 V ∧ Spare V w3 (.slice qa M qc) 3 1 M) (fun i _ => M - (intOf i).toNat)
          case atStart => exact ⟨0, by omega, rfl, B7, hsp7⟩
          case round =>
            clear B7 hsp7
            obtain ⟨j2, hj2, rfl, hB, hS⟩ := hrel
            by_cases hjM : j2 < M
            · have hjI : (j2 : Int) < (M : Int) := by omega
              rcases hS with hS | ⟨b, cap, C, hv, hb, hC, hsz⟩
              · omega
              · injection hv with hv1 hv2 hv3
                subst hv1 hv3
                have eC := (hC.cell j2).trans (Array.getElem?_eq_getElem (show j2 < C.size by omega))
                have fC := hC.free j2
                have K8 := fun V => kept_setCell b j2 (.int .i64 (-1)) V
                have C8 := hC.setCell j2 (.int .i64 (-1))
                have Z8 : M * 1 ≤ (C.setIfInBounds j2 (.int .i64 (-1))).size := by rw [Array.size_setIfInBounds]; exact hsz
                go_wp2
                go_roundw
                case rel => exact ⟨j2 + 1, by omega, by go_num, (K8 _).bel _ _ hb hB, Or.inr ⟨b, qc, _, rfl, hb, C8, Z8⟩⟩
                case measure => simp [intOf]; omega
            · have hjI : ¬ (j2 : Int) < (M : Int) := by omega
              go_wp2
              go_roundw
              case rel => exact ⟨m + 1, by omega, by go_num, hB⟩
              case measure => simp [intOf]; omega
        · have hmI : ¬ (m : Int) < 4 := by omega
          have T9 := T4.keep hB
          have X9 := X4.below hB
          have e9 : wr.cell? ⟨bx, 0, none⟩ = some (.pointer (some ⟨og, 0, none⟩)) := X9.cell 0
          have hsame := same_any T9.one T9.other (fun _ _ => rfl) rfl hnl hql
          have hw9 := hB.size
          go_wp2_with (first
            | (go_at_call 12; refine hsame.mono ?_; clear hsame; rintro e w10 ⟨rfl, L10⟩))
          go_ret
          have hB10 := bel_trans hB L10
          exact ⟨rfl, ⟨q3, nt3, T4.keep hB10, hn4⟩, X4.below hB10, by have := hB10.size; omega, bel_trans B4 hB10⟩

set_option maxRecDepth 100000 in
set_option maxHeartbeats 4000000 in
theorem mem_play (n : Int) (l : List Ac) (bx og : Nat) (w w3 : World) (hog : w.heap.size ≤ og) (H : CwAt w3 og 70 (newC (liesV n)) (fun _ => .slice none 0 0) (.slice none 0 0)) (X : Blk w3 bx #[.pointer (some ⟨og, 0, none⟩)] 28) (B : Below w.heap.size w w3)
    (s : Value) (hs : ∀ W, Below w.heap.size w W → ActsAt W s l) (hlen : l.length < 4611686018427387904) :
    Calls Try.prog 8 #[.int .i64 (liesV n), s, .func (.func 16) #[] #[.pointer (some ⟨bx, 0, none⟩)]] w3 fun e w' => ∃ g, e = .returned (.tuple #[.pointer (some ⟨g, 0, none⟩), .bool true]) ∧ Below w.heap.size w w' := by
  have hl := liesV_bd n
  have LK : LooksG 16 #[.pointer (some ⟨bx, 0, none⟩)] (liesV n) l w w3
      (fun k g q nt W => (∃ q' nt', Two W g (playC (liesV n) l k) q nt og (playC (liesV n) l k) q' nt' ∧ ∀ b, nt'.ownBlock = some b → w.heap.size ≤ b) ∧ Blk W bx #[.pointer (some ⟨og, 0, none⟩)] 28)
      (fun k g q nt W => (∃ q' nt', Two W g (playC (liesV n) l (k + 1)) q nt og (playC (liesV n) l k) q' nt' ∧ ∀ b, nt'.ownBlock = some b → w.heap.size ≤ b) ∧ Blk W bx #[.pointer (some ⟨og, 0, none⟩)] 28) := by
    refine ⟨fun _ _ => by show _ = _; kernel_rfl, fun g W hg hW hB => ?_, fun k g q nt W W' hI hb => ?_, fun k g x q q2 nt nt2 W W' hx hI hc ht hW' hN => ?_, fun k g x q nt W hx hW hg _ hI hB => ?_⟩
    · exact ⟨⟨_, _, (two_of H hW hB hg (fun k hk => by cases hk)).swap, fun b hb => by cases hb⟩, X.below hB⟩
    · obtain ⟨⟨q', nt', h1, h2⟩, h3⟩ := hI
      exact ⟨⟨q', nt', h1.keep hb, h2⟩, h3.below hb⟩
    · obtain ⟨⟨q', nt', h1, h2⟩, h3⟩ := hI
      exact ⟨⟨q', nt', h1.did hW' ht hN, h2⟩, ht.blk hc.blk hc.net h3 (by decide) (by decide)⟩
    · obtain ⟨⟨q', nt', h1, h2⟩, h3⟩ := hI
      refine (mem_look (liesV n) hl l k x hx bx og g q q' nt nt' w W h1 h3 hog h2 hB).mono ?_
      rintro e W' ⟨rfl, ⟨q2, nt2, z1, z2⟩, z3, z4, z5⟩
      exact ⟨rfl, z1.one, ⟨⟨q2, nt2, z1, z2⟩, z3⟩, z4, z5⟩
  refine (play_genG 16 #[.pointer (some ⟨bx, 0, none⟩)] (liesV n) hl l s w w3 _ _ hs hlen B LK).mono ?_
  rintro e w' ⟨g, q, nt, rfl, _, _, _, _, _, hB⟩
  exact ⟨g, rfl, hB⟩

set_option maxRecDepth 100000 in
set_option maxHeartbeats 4000000 in
theorem topMemory_any (n : Int) (l : List Ac) (s : Value) (w : World) (hs : ActsAt w s l) (hlen : l.length < 4611686018427387904) (hcap : ∃ a c, s = .slice a l.length c ∧ l.length ≤ c) :
    Calls Try.prog 5 #[.int .i64 n, s] w fun e w' => e = .returned (.bool true) ∧ Below w.heap.size w w' := by
  obtain ⟨sa, sc, hsv, hsc⟩ := hcap
  subst hsv
  have hl := liesV_bd n
  have HP := fun l' bx og w3 hog H X B s' hs' hl' => mem_play n l' bx og w w3 hog H X B s' hs' hl'
  have HPlay : Hid _ := HP
  have HS : Hid (∀ W, Below w.heap.size w W → ActsAt W (.slice sa l.length sc) l) := fun W hW => hs.keep hW
  clear HP
  by_cases h80 : (l.length : Int) > 80
  · have hsl := sliceT sa l.length sc 80 (by omega)
    have HT : Hid (∀ W, Below w.heap.size w W → ActsAt W (.slice sa 80 sc) (l.take 80)) := fun W hW => acts_take (hs.keep hW) (by omega)
    have hlt : (l.take 80).length < 4611686018427387904 := by rw [List.length_take]; omega
    clear hs
    go_enter Try.func5, Try.ntmps5
    go_upto_region 4 with (first
      | (go_at_call 9; refine (lies_any n _).mono ?_; rintro e w' ⟨rfl, hw'⟩; obtain rfl := hw'.symm)
      | (go_at_call 15; refine (new_good (liesV n) hl _).mono ?_; rintro e w2 ⟨rfl, H2, L2⟩))
    have X3 : Blk (w2.alloc (.cells #[.pointer (some ⟨w.heap.size, 0, none⟩)] 28)) w2.heap.size #[.pointer (some ⟨w.heap.size, 0, none⟩)] 28 := Blk.new w2 _ _
    have L3 : Below w2.heap.size w2 (w2.alloc (.cells #[.pointer (some ⟨w.heap.size, 0, none⟩)] 28)) := by go_grown
    generalize (w2.alloc (.cells #[.pointer (some ⟨w.heap.size, 0, none⟩)] 28)) = w3 at X3 L3 ⊢
    have H3 := H2.keep L3
    have B3 := bel_trans L2 L3
    have hp := HPlay.out (l.take 80) w2.heap.size w.heap.size w3 (Nat.le_refl _) H3 X3 B3 (.slice sa 80 sc) HT.out hlt
    have hsl' : ∀ V, Sem.run Try.prog (Instr.slice 22 (.slice sa l.length sc) none (some (.int .i64 80)) none) V = .ok (.slice sa 80 sc) V := hsl
    go_wp2_with (first
      | (go_at_call 9; refine (lies_any n _).mono ?_; rintro e w' ⟨rfl, hw'⟩; obtain rfl := hw'.symm)
      | (go_at_call 8; refine hp.mono ?_; clear hp; rintro e w4 ⟨g, rfl, hB4⟩))
    go_ret
    exact ⟨rfl, hB4⟩
  · clear hs
    go_enter Try.func5, Try.ntmps5
    go_upto_region 4 with (first
      | (go_at_call 9; refine (lies_any n _).mono ?_; rintro e w' ⟨rfl, hw'⟩; obtain rfl := hw'.symm)
      | (go_at_call 15; refine (new_good (liesV n) hl _).mono ?_; rintro e w2 ⟨rfl, H2, L2⟩))
    have X3 : Blk (w2.alloc (.cells #[.pointer (some ⟨w.heap.size, 0, none⟩)] 28)) w2.heap.size #[.pointer (some ⟨w.heap.size, 0, none⟩)] 28 := Blk.new w2 _ _
    have L3 : Below w2.heap.size w2 (w2.alloc (.cells #[.pointer (some ⟨w.heap.size, 0, none⟩)] 28)) := by go_grown
    generalize (w2.alloc (.cells #[.pointer (some ⟨w.heap.size, 0, none⟩)] 28)) = w3 at X3 L3 ⊢
    have H3 := H2.keep L3
    have B3 := bel_trans L2 L3
    have hp := HPlay.out l w2.heap.size w.heap.size w3 (Nat.le_refl _) H3 X3 B3 (.slice sa l.length sc) HS.out hlen
    go_wp2_with (first
      | (go_at_call 9; refine (lies_any n _).mono ?_; rintro e w' ⟨rfl, hw'⟩; obtain rfl := hw'.symm)
      | (go_at_call 8; refine hp.mono ?_; clear hp; rintro e w4 ⟨g, rfl, hB4⟩))
    go_ret
    exact ⟨rfl, hB4⟩
end Go.Proofs.Ytmmgaonlmpajbac
