/-
  The whole: lies, and play with nothing looked at.
-/
import Derived.Test.YtmmgaonlmpajbacCAlive
import Derived.Test.YtmmgaonlmpajbacOpenA
namespace Go.Proofs.Ytmmgaonlmpajbac
open Go.RowKit

/-- A number brought to -1 to 3. -/
def liesV (n : Int) : Int := (if n.tmod 5 < 0 then n.tmod 5 + 5 else n.tmod 5) - 1
theorem liesV_bd (n : Int) : -1 ≤ liesV n ∧ liesV n ≤ 3 := by
  have h1 : n.tmod 5 < 5 := Int.tmod_lt_of_pos n (by omega)
  have h2 : -5 < n.tmod 5 := by
    have := Int.lt_tmod_of_pos n (show (0 : Int) < 5 by omega)
    omega
  unfold liesV
  split <;> omega

set_option maxHeartbeats 1000000 in
theorem lies_any (n : Int) (w : World) : Calls Try.prog 9 #[.int .i64 n] w fun e w' => e = .returned (.int .i64 (liesV n)) ∧ w' = w := by
  have h1 : n.tmod 5 < 5 := Int.tmod_lt_of_pos n (by omega)
  have h2 : -5 < n.tmod 5 := by
    have := Int.lt_tmod_of_pos n (show (0 : Int) < 5 by omega)
    omega
  by_cases h : n.tmod 5 < 0
  · have HV : Hid (liesV n = n.tmod 5 + 5 - 1) := show _ = _ by unfold liesV; rw [if_pos h]
    go_enter Try.func9, Try.ntmps9
    go_wp2
    go_ret
    exact ⟨ret_int HV.out.symm, rfl⟩
  · have HV : Hid (liesV n = n.tmod 5 - 1) := show _ = _ by unfold liesV; rw [if_neg h]
    go_enter Try.func9, Try.ntmps9
    go_wp2
    go_ret
    exact ⟨ret_int HV.out.symm, rfl⟩

/-- What comes of the first k of the acts. -/
def playC (liar : Int) (l : List Ac) (k : Nat) : Cw := (l.take k).foldl (fun c a => (doC c a).1) (newC liar)
theorem playC_succ {liar : Int} {l : List Ac} {k : Nat} {a : Ac} (h : l[k]? = some a) : playC liar l (k + 1) = (doC (playC liar l k) a).1 := by
  unfold playC
  rw [List.take_add_one, h, List.foldl_append]
  rfl
theorem playC_good {liar : Int} (hl : -1 ≤ liar ∧ liar ≤ 3) (l : List Ac) : ∀ k, CG (playC liar l k)
  | 0 => newC_good hl
  | k + 1 => by
    cases h : l[k]? with
    | none =>
      have e : playC liar l (k + 1) = playC liar l k := by
        unfold playC
        rw [List.take_add_one, h]; simp
      rw [e]; exact playC_good hl l k
    | some a => rw [playC_succ h]; exact do_good (playC_good hl l k) a
/-- How many acts are played. -/
def most (l : List Ac) : Nat := min l.length 300

set_option maxHeartbeats 1000000 in
theorem quiet_any (c : Value) (a r : Value) (w : World) (ha : ∃ C, a = .agg C) (hr : ∃ C, r = .agg C) : Calls Try.prog 10 #[c, a, r] w fun e w' => e = .returned (.bool true) ∧ Below w.heap.size w w' := by
  obtain ⟨A, rfl⟩ := ha
  obtain ⟨R, rfl⟩ := hr
  go_enter Try.func10, Try.ntmps10
  go_wp2
  go_ret
  exact ⟨rfl, by go_grown⟩

/-- A crowd was played with: it lies at a new block, and what was kept beside it holds. -/
def Played (w0 w : World) (c : Cw) (I : World → Prop) (e : Ending) (w' : World) : Prop :=
  ∃ g q nt, e = .returned (.tuple #[.pointer (some ⟨g, 0, none⟩), .bool true]) ∧ w.heap.size ≤ g ∧ CwAt w' g 70 c q nt ∧ (∀ k, nt.ownBlock = some k → w.heap.size ≤ k) ∧ I w' ∧ w.heap.size ≤ w'.heap.size ∧ Below w0.heap.size w0 w'

/-- What looking at each act does. -/
structure Looks (F : Nat) (caps : Array Value) (liar : Int) (l : List Ac) (w0 : World) (I : Nat → World → Prop) : Prop where
  ent : ∀ args W, Sem.run Try.prog (callFunc F args) W = .ok (.enter F args) W
  low : ∀ (k : Nat) (W W' : World), I k W → Below W.heap.size W W' → I k W'
  stab : ∀ (k g : Nat) (c : Cw) (q : Nat → Value) (nt : Value) (W W' : World), I k W → CwAt W g 70 c q nt → Touch g nt W W' → I k W'
  look : ∀ (k g : Nat) (x : Ac) (q : Nat → Value) (nt : Value) (W : World), l[k]? = some x → CwAt W g 70 (playC liar l (k + 1)) q nt → w0.heap.size ≤ g → (∀ b, nt.ownBlock = some b → w0.heap.size ≤ b) → I k W → Below w0.heap.size w0 W →
    Calls Try.prog F (#[.pointer (some ⟨g, 0, none⟩), .agg (acArr x), .agg (doC (playC liar l k) x).2] ++ caps) W (fun e W' => e = .returned (.bool true) ∧ CwAt W' g 70 (playC liar l (k + 1)) q nt ∧ I (k + 1) W' ∧ W.heap.size ≤ W'.heap.size ∧ Below w0.heap.size w0 W')

set_option maxRecDepth 100000 in
set_option maxHeartbeats 4000000 in
theorem play_gen (F : Nat) (caps : Array Value) (liar : Int) (hl : -1 ≤ liar ∧ liar ≤ 3) (l : List Ac) (s : Value) (w0 w : World) (I : Nat → World → Prop) (hs : ∀ W, Below w0.heap.size w0 W → ActsAt W s l) (hlen : l.length < 4611686018427387904) (h0 : Below w0.heap.size w0 w) (hI : I 0 w) (LK : Looks F caps liar l w0 I) :
    Calls Try.prog 8 #[.int .i64 liar, s, .func (.func F) #[] caps] w (Played w0 w (playC liar l (most l)) (I (most l))) := by
  obtain ⟨sa, sc, hsv⟩ := (hs w h0).len
  subst hsv
  have HS : Hid (∀ W, Below w0.heap.size w0 W → ActsAt W (.slice sa l.length sc) l) := hs
  have HLK : Hid (Looks F caps liar l w0 I) := LK
  have HI : Hid (I 0 w) := hI
  have HL : Hid (-1 ≤ liar ∧ liar ≤ 3) := hl
  have h0s := h0.size
  clear hs LK hI hl
  go_enter Try.func8, Try.ntmps8
  go_wp2_with (first
    | (go_at_call 13; refine (talive_any _).mono ?_; rintro e w1 ⟨rfl, L1⟩)
    | (go_at_call 15; refine (new_good liar HL.out _).mono ?_; rintro e w2 ⟨rfl, H2, L2⟩))
  have hs2 : w.heap.size ≤ w1.heap.size := L1.size
  have I2 : Hid (I 0 w2) := HLK.out.low 0 _ _ (HLK.out.low 0 _ _ HI.out L1) L2
  go_loopw [10] (fun i W => ∃ k q nt, k ≤ most l ∧ i = .int .i64 ((k : Nat) : Int) ∧ CwAt W w1.heap.size 70 (playC liar l k) q nt ∧ (∀ b, nt.ownBlock = some b → w.heap.size ≤ b) ∧ Hid (I k W) ∧ w.heap.size ≤ W.heap.size ∧ Below w0.heap.size w0 W) (fun i _ => 300 - (intOf i).toNat)
  case atStart => exact ⟨0, _, _, Nat.zero_le _, rfl, H2, (fun b hb => by cases hb), I2, by have := L2.size; omega, bel_trans (bel_trans h0 L1) L2⟩
  case round =>
    clear H2 I2
    obtain ⟨k, q, nt, hk, rfl, H3, hnt, hI3, hsz3, hB⟩ := hrel
    by_cases hlt : k < most l
    · have hk1 : k < l.length := by unfold most at hlt; omega
      have hk3 : k < 300 := by unfold most at hlt; omega
      have hx : l[k]? = some l[k] := List.getElem?_eq_getElem hk1
      obtain ⟨b, o, cap, hv, hr⟩ := (HS.out wr hB).lies hx
      injection hv with hv1 hv2 hv3
      subst hv1 hv3
      have HR : Hid (∀ W, Below w0.heap.size w0 W → W.rangeAt b (o + k * 14) (acArr l[k]).toList) := fun W hW => by
        obtain ⟨b', o', cap', hv', hr'⟩ := (HS.out W hW).lies hx
        injection hv' with hv1 hv2 hv3
        injection hv1 with hv1
        injection hv1 with hv1 hv4 _
        rw [hv1, hv4]; exact hr'
      have HP : Hid (playC liar l (k + 1) = (doC (playC liar l k) l[k]).1) := playC_succ hx
      have hG := playC_good HL.out l k
      have hG2 := playC_good HL.out l (k + 1)
      have hlook := fun q nt W => HLK.out.look k w1.heap.size l[k] q nt W hx
      have hdo := fun W q nt (hW : CwAt W w1.heap.size 70 (playC liar l k) q nt) => do_any hG hW l[k]
      have HX : Hid (l[k]? = some l[k]) := hx
      obtain ⟨code, nn, f, hrep⟩ := do_isRep (playC liar l k) l[k]
      rw [hrep] at hlook hdo
      rw [← HP.out] at hdo
      have HLook : Hid _ := hlook
      have HDo : Hid _ := hdo
      clear hlook hdo hrep hx
      generalize l[k] = x at hr HLook HDo HX HR
      have hia : (Try.prog.info? 27).map (·.size) = some (acArr x).size := by show _ = some 14; kernel_rfl
      have hi := info_rep code nn f
      have ho := one_rep code nn f
      have hkI : (k : Int) < (l.length : Int) := by omega
      have hkJ : (k : Int) < 300 := by omega
      rename World => w3
      go_upto_region 10 with (first
        | (refine wpList_load_part (by rfl) 27 _ rfl b (o + k * 14) (by first | rfl | simp) (acArr x) _ hr Try.underlying27 rfl hia ?_)
        | (go_at_call 11; refine (HDo.out w3 q nt H3).mono ?_; rintro e w4 ⟨rfl, q4, nt4, H4, T4, N4⟩; have Z4 : Blk (w4.alloc (.cells zR 35)) w4.heap.size zR 35 := Blk.new w4 _ _; have La : Below w4.heap.size w4 (w4.alloc (.cells zR 35)) := (by go_grown))
        | (refine wpList_store_blk rfl 35 _ _ rfl w4.heap.size zR (rcells code nn f) 35 rfl rfl Z4 rfl hi ho ?_; rintro w5 B5 K5; have L5 := K5.bel _ _ (Nat.le_refl _) La))
      have hB4 : Below w0.heap.size w0 w4 := bel_seq hB (T4.bel (by omega) (fun b hb => by have := hnt b hb; omega) hB.size)
      have hB5 : Below w0.heap.size w0 w5 := bel_trans hB4 L5
      have hr5 := HR.out w5 hB5
      have H5 := H4.keep L5
      have hI5 : Hid (I k w5) := HLK.out.low k _ _ (HLK.out.stab k _ _ _ _ _ _ hI3.out H3 T4) L5
      have hnt4 : ∀ b, nt4.ownBlock = some b → w.heap.size ≤ b := fun b hb => by
        rcases N4 with h | h
        · exact hnt b (by rw [← h]; exact hb)
        · have := h b hb; omega
      have hs5 : w.heap.size ≤ w5.heap.size := by have := T4.size; have := L5.size; omega
      clear hr Z4 La K5 H4 HR
      refine held_region (fun W => W.rangeAt b (o + k * 14) (acArr x).toList ∧ Blk W w4.heap.size (rcells code nn f) 35) [7] [(0, 0), (1, 0), (2, 0), (3, 0), (4, 0), (5, 1), (6, 1), (7, 2), (8, 0)] (by kernel_rfl) (by kernel_rfl) (by kernel_rfl) rfl (fun _ _ d _ _ h => by cases d <;> exact h) ⟨hr5, B5.drew⟩ ?_
      repeat (first
        | (refine ord_run0_ex rfl (by rfl) ?_
           apply Exists.intro
           refine ⟨fun w0 => ?_, ?_⟩
           · go_simp; rfl
           simp only [Act.put, List.setIfInBounds_toArray, List.set_cons_zero, List.set_cons_succ])
        | (refine ord_load rfl (by rfl) 27 _ rfl b (o + k * 14) (by first | rfl | simp) (acArr x) _ (fun W H => H.1) Try.underlying27 rfl hia ?_; simp only [Act.put, List.setIfInBounds_toArray, List.set_cons_zero, List.set_cons_succ])
        | (refine ord_load rfl (by rfl) 35 _ rfl w4.heap.size 0 rfl (rcells code nn f) _ (fun W H => H.2.range) Try.underlying35 rfl hi ?_; simp only [Act.put, List.setIfInBounds_toArray, List.set_cons_zero, List.set_cons_succ]))
      refine ord_call_ex rfl (by rfl) ⟨F, #[.pointer (some ⟨w1.heap.size, 0, none⟩), .agg (acArr x), .agg (rcells code nn f)] ++ caps, ?_, ?_⟩
      · go_simp
        exact HLK.out.ent _ _
      refine (HLook.out q4 nt4 w5.drew H5.drew (by omega) (fun b hb => by have := hnt4 b hb; omega) (HLK.out.low k _ _ hI5.out (below_drew' (Below.refl _ _))) (below_drew' hB5)).mono ?_
      rintro e w6 ⟨rfl, C6, I6, hs6, hB6⟩
      refine ⟨_, rfl, fun hc => absurd hc (by decide), ?_⟩
      simp only [Act.put, List.setIfInBounds_toArray, List.set_cons_zero, List.set_cons_succ]
      repeat (first
        | (refine ord_run0_ex rfl (by rfl) ?_
           apply Exists.intro
           refine ⟨fun w0 => ?_, ?_⟩
           · go_simp; rfl
           simp only [Act.put, List.setIfInBounds_toArray, List.set_cons_zero, List.set_cons_succ]))
      show wpOrd _ _ _ _ _ [] _ _ _
      unfold wpOrd
      go_wp2
      go_roundw
      case measure => simp [intOf]; omega
      case rel => exact ⟨k + 1, q4, nt4, by omega, by go_num, C6, hnt4, I6, Nat.le_trans hs5 hs6, hB6⟩
    · have hkm : Hid (k = most l) := show k = most l by omega
      have hend : ¬ ((k : Int) < (l.length : Int) ∧ (k : Int) < 300) := by unfold most at hlt; omega
      by_cases hk1 : (k : Int) < (l.length : Int)
      · have hk3 : ¬ (k : Int) < 300 := fun h => hend ⟨hk1, h⟩
        clear hend
        go_wp2
        go_ret2
        rw [← hkm.out]
        exact ⟨w1.heap.size, q, nt, rfl, hs2, H3, hnt, hI3.out, hsz3, hB⟩
      · clear hend
        go_wp2
        go_ret2
        rw [← hkm.out]
        exact ⟨w1.heap.size, q, nt, rfl, hs2, H3, hnt, hI3.out, hsz3, hB⟩

theorem looks_quiet (liar : Int) (l : List Ac) (w0 : World) : Looks 10 #[] liar l w0 (fun _ _ => True) := by
  refine ⟨fun _ _ => by show _ = _; kernel_rfl, fun _ _ _ _ _ => trivial, fun _ _ _ _ _ _ _ _ _ _ => trivial, fun k g x q nt W _ hW _ _ _ hB => ?_⟩
  refine (quiet_any _ _ _ W ⟨_, rfl⟩ ⟨_, rfl⟩).mono ?_
  rintro e W' ⟨rfl, L⟩
  exact ⟨rfl, hW.keep L, trivial, L.size, bel_trans hB L⟩
end Go.Proofs.Ytmmgaonlmpajbac
