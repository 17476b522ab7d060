/-
  The statement TopTrue.
-/
import Derived.Test.YtmmgaonlmpajbabOneCallC
import Derived.Test.YtmmgaonlmpajbabMapW
import Derived.Test.YtmmgaonlmpajbabTPlayG
import Derived.Test.YtmmgaonlmpajbabClientsLaw
namespace Go.Proofs.Ytmmgaonlmpajbab
open Go.RowKit

theorem slice_nilL (V : World) : Sem.run Try.prog (Instr.slice 56 (.slice none 0 0) (some (.int .i64 ((0 : Nat) : Int))) none none) V = .ok (.slice none 0 0) V := by show _ = _; kernel_rfl
/-- The letters from the m-th on. -/
theorem slice_from {W0 : World} {base : Nat} {v : Value} {net : List (Nat × Wd)} (O : W0.ownsRow base 71 7 v net.length (lesCells net)) (m : Nat) (hm : m ≤ net.length) :
    ∃ (sa : Option Addr) (c2 : Nat), (∀ V, Sem.run Try.prog (Instr.slice 56 v (some (.int .i64 (m : Int))) none none) V = .ok (.slice sa (net.length - m) c2) V) ∧ (m < net.length → ∃ b cap, v = .slice (some ⟨b, 0, none⟩) net.length cap ∧ sa = some ⟨b, m * 7, none⟩) := by
  rcases O.2 with ⟨hv, hn⟩ | ⟨b, cap, cur, hv, _, _, hcap, _⟩
  · have hm0 : m = 0 := by omega
    subst hm0 hv
    refine ⟨none, 0, fun V => ?_, fun h => by omega⟩
    rw [slice_nilL, hn]
  · subst hv
    by_cases hc : m < cap
    · exact ⟨_, _, fun V => sliceL b net.length cap m hm hcap hc V, fun _ => ⟨b, cap, rfl, rfl⟩⟩
    · have e : cap = m := by omega
      subst e
      refine ⟨some ⟨b, 0, none⟩, 0, fun V => ?_, fun h => by omega⟩
      rw [sliceE b net.length cap hm (by omega), show net.length - cap = 0 by omega]
theorem le_word {W : World} {b : Nat} {x : Nat × Wd} {t : TypeId} (B : Blk W b (leArr x) t) : W.rangeAt b 1 (wdV x.2).toList := by
  intro j u hu
  have hj : j < 6 := by
    by_cases hlt : j < 6
    · exact hlt
    · rw [List.getElem?_eq_none (by show (wdV x.2).toList.length ≤ j; simp [wdV]; omega)] at hu; cases hu
  rw [B.cell]
  have : j = 0 ∨ j = 1 ∨ j = 2 ∨ j = 3 ∨ j = 4 ∨ j = 5 := by omega
  rcases this with rfl | rfl | rfl | rfl | rfl | rfl <;> simpa [leArr, wdV] using hu
/-- A crowd, while a number that lies ahead of it is stored. -/
theorem CwAt.keptN {W W' : World} {g x : Nat} {c : Cw} {q : Nat → Value} {nt : Value} {D : Array Value} (h : CwAt W g 93 c q nt) (K : Kept x W W') (X : Blk W x D 3) (hx : x < g) : CwAt W' g 93 c q nt :=
  ⟨K.blk g _ _ (by omega) h.blk, fun i hi => own_kept (h.que i hi) K hx, own_keptT h.net K X (by decide)⟩
theorem map_not {W : World} {r b : Nat} {M : List (Wd × Int × Nat)} {C : Array Value} {t : TypeId} (h : MapAt W r M) (B : W.heap[b]? = some (.cells C t)) : b ≠ r := fun e => by
  obtain ⟨c, h⟩ := h
  subst e
  rw [h] at B
  cases B
/-- A crowd, while a map is stored into. -/
theorem CwAt.grownM {W W' : World} {g r : Nat} {c : Cw} {q : Nat → Value} {nt : Value} {M : List (Wd × Int × Nat)} (h : CwAt W g 93 c q nt) (G : W.grownBy W' (some r)) (MA : MapAt W r M) : CwAt W' g 93 c q nt := by
  have key : ∀ {e : TypeId} {base size n : Nat} {v : Value} {xs : List Value}, W.ownsRow base e size v n xs → v.ownBlock ≠ some r := fun O hk => by
    obtain ⟨_, _, cur, hc⟩ := own_block O r hk
    exact map_not MA hc rfl
  exact ⟨h.blk.grown G (map_not MA h.blk), fun i hi => (h.que i hi).kept G (Or.inr (key (h.que i hi))), h.net.kept G (Or.inr (key h.net))⟩
theorem MapAt.touch {W W' : World} {g r : Nat} {c : Cw} {q : Nat → Value} {nt : Value} {M : List (Wd × Int × Nat)} (MA : MapAt W r M) (h : CwAt W g 93 c q nt) (T : Touch g nt W W') : MapAt W' r M := by
  have hlt := MA.lt
  have h1 := map_not MA h.blk
  have h2 : nt.ownBlock ≠ some r := fun hk => by
    obtain ⟨_, _, cur, hc⟩ := own_block h.net r hk
    exact map_not MA hc rfl
  obtain ⟨c, e⟩ := MA
  exact ⟨c, (T.block r hlt (fun e => h1 e.symm) h2).trans e⟩
theorem MapAt.setCell {W : World} {r b : Nat} {M : List (Wd × Int × Nat)} {C : Array Value} {t : TypeId} (MA : MapAt W r M) (B : Blk W b C t) (j : Nat) (v : Value) : MapAt (W.setCell ⟨b, j, none⟩ v) r M := by
  have hne := map_not MA B
  obtain ⟨c, e⟩ := MA
  exact ⟨c, (heap_setCell_other W ⟨b, j, none⟩ r v (fun e => hne e.symm)).trans e⟩
/-- All that is kept was said. -/
def SaidM (liar : Int) (c : Cw) (M : List (Wd × Int × Nat)) : Prop := ∀ e, e ∈ M → e.1.f ≠ liar → OnS c e.1 (e.2.1 - 1)

set_option maxRecDepth 100000 in
set_option maxHeartbeats 16000000 in
theorem says_look (bn bl bm r : Nat) (liar : Int) (c' : Cw) (x : Ac) (code nn : Int) (f : Nat → Int) (k0 m : Nat) (M : List (Wd × Int × Nat)) (g : Nat) (q : Nat → Value) (nt : Value) (w0 W : World)
    (hnet : c'.net.length ≤ 2000) (hk0 : k0 ≤ 2000) (hm : m ≤ c'.net.length) (hm1 : (x.kind = 3 ∧ code = 0) → (m : Int) = (k0 : Int) - 1) (hm2 : ¬ (x.kind = 3 ∧ code = 0) → m = k0)
    (hM : SaidM liar c' M) (hN : ∀ y, y ∈ c'.net → y.2.f ≠ liar → OnS c' y.2 y.2.v) (hC : ∀ y, y ∈ c'.net → (1 ≤ y.2.k ∧ y.2.k ≤ 3) ∧ 0 ≤ y.2.v ∧ y.2.v ≤ 9)
    (H : CwAt W g 93 c' q nt) (hbg : bn < g) (hnb : w0.heap.size ≤ bn) (hrb : w0.heap.size ≤ r) (hlb : bl ≠ bn)
    (hBn : Blk W bn #[.int .i64 (k0 : Int)] 3) (hBl : Blk W bl #[.int .i64 liar] 3) (hBm : Blk W bm #[.map (some r)] 69) (hA : MapAt W r M) (h0 : Below w0.heap.size w0 W) :
    Calls Try.prog 32 #[.pointer (some ⟨g, 0, none⟩), .agg (acArr x), .agg (rcells code nn f), .pointer (some ⟨bn, 0, none⟩), .pointer (some ⟨bl, 0, none⟩), .pointer (some ⟨bm, 0, none⟩)] W
      (fun e W' => e = .returned (.bool true) ∧ CwAt W' g 93 c' q nt ∧ Blk W' bn #[.int .i64 (c'.net.length : Int)] 3 ∧ Blk W' bl #[.int .i64 liar] 3 ∧ Blk W' bm #[.map (some r)] 69 ∧ (∃ M', MapAt W' r M' ∧ SaidM liar c' M') ∧ W.heap.size ≤ W'.heap.size ∧ Below w0.heap.size w0 W') := by
  have La : Below W.heap.size W ((W.alloc (.cells (acArr x) 49)).alloc (.cells (rcells code nn f) 52)) := by go_grown
  have H1 := H.keep La
  have N1 := hBn.below La
  have L1 := hBl.below La
  have P1 := hBm.below La
  have A1 := hA.below La
  have B1 := bel_trans h0 La
  have B0s : w0.heap.size ≤ W.heap.size := h0.size
  have hs1 : W.heap.size ≤ ((W.alloc (.cells (acArr x) 49)).alloc (.cells (rcells code nn f) 52)).heap.size := La.size
  have BA : Blk ((W.alloc (.cells (acArr x) 49)).alloc (.cells (rcells code nn f) 52)) W.heap.size (acArr x) 49 := (Blk.new W _ _).alloc _
  have BR : Blk ((W.alloc (.cells (acArr x) 49)).alloc (.cells (rcells code nn f) 52)) (W.heap.size + 1) (rcells code nn f) 52 := Blk.new1 W _ _ _
  have HM : Hid (SaidM liar c' M) := hM
  have HN : Hid (∀ y, y ∈ c'.net → y.2.f ≠ liar → OnS c' y.2 y.2.v) := hN
  have HC : Hid (∀ y, y ∈ c'.net → (1 ≤ y.2.k ∧ y.2.k ≤ 3) ∧ 0 ≤ y.2.v ∧ y.2.v ≤ 9) := hC
  have HE1 : Hid ((x.kind = 3 ∧ code = 0) → (m : Int) = (k0 : Int) - 1) := hm1
  have HE2 : Hid (¬ (x.kind = 3 ∧ code = 0) → m = k0) := hm2
  clear H hBn hBl hBm hA h0 La hM hN hC hm1 hm2
  go_enter Try.func32, Try.ntmps32
  go_upto_region 1 with fail
  generalize ((W.alloc (.cells (acArr x) 49)).alloc (.cells (rcells code nn f) 52)) = w1 at H1 N1 L1 P1 A1 B1 hs1 BA BR ⊢
  have hnt := net_any H1 hnet
  go_upto_region 2 with (first
    | (go_at_call 24; refine hnt.mono ?_; clear hnt; rintro e w2 ⟨v1, rfl, O1, L12⟩))
  replace H1 := H1.keep L12
  replace N1 := N1.below L12
  replace L1 := L1.below L12
  replace P1 := P1.below L12
  replace A1 := A1.below L12
  replace B1 := bel_trans B1 L12
  replace hs1 : W.heap.size ≤ w2.heap.size := by have := L12.size; omega
  replace BA := BA.below L12
  replace BR := BR.below L12
  clear L12
  generalize w1.heap.size = base1 at O1
  have eR : w2.cell? ⟨W.heap.size + 1, 0, none⟩ = some (.int .i64 code) := BR.cell 0
  have eK : w2.cell? ⟨W.heap.size, 0, none⟩ = some (.int .i64 x.kind) := BA.cell 0
  clear BA BR
  have way : x.kind ≠ 3 ∨ (x.kind = 3 ∧ code ≠ 0) ∨ (x.kind = 3 ∧ code = 0) := by omega
  rcases way with c1 | ⟨c1, c2⟩ | ⟨c1, c2⟩
  · have d1 : (x.kind == 3) = false := by simpa using c1
    have hmk := HE2.out (fun h => c1 h.1)
    rw [← hmk] at N1
    clear c1 HE1 HE2 hmk hk0
    go_upto_region 4 with fail
    clear eR eK
    obtain ⟨sa, c2, hsl, hrow⟩ := slice_from O1 m hm
    have eN : w2.cell? ⟨bn, 0, none⟩ = some (.int .i64 (m : Int)) := N1.cell 0
    obtain ⟨na, nc, hnv⟩ := own_shape O1
    subst hnv
    have hlenI : ¬ ((m : Int) > (c'.net.length : Int)) := by omega
    have hm0 : ¬ ((m : Int) < 0) := by omega
    go_upto_region 7 with fail
    clear eN hsl
    have HR : Hid (m < c'.net.length → ∃ b cap, Value.slice na c'.net.length nc = .slice (some ⟨b, 0, none⟩) c'.net.length cap ∧ sa = some ⟨b, m * 7, none⟩) := hrow
    clear hrow
    go_loopw [39] (fun i V => ∃ j : Nat, j ≤ c'.net.length - m ∧ i = .int .i64 (j : Int) ∧ CwAt V g 93 c' q nt ∧ Blk V bn #[.int .i64 (m : Int)] 3 ∧ Blk V bl #[.int .i64 liar] 3 ∧ Blk V bm #[.map (some r)] 69 ∧ (∃ M', MapAt V r M' ∧ SaidM liar c' M') ∧ V.ownsRow base1 71 7 (.slice na c'.net.length nc) c'.net.length (lesCells c'.net) ∧ Below w0.heap.size w0 V ∧ W.heap.size ≤ V.heap.size) (fun i _ => (c'.net.length - m) - (intOf i).toNat)
    case atStart => exact ⟨0, by omega, rfl, H1, N1, L1, P1, ⟨M, A1, HM.out⟩, O1, B1, hs1⟩
    case round =>
      clear H1 N1 L1 P1 A1 O1 B1 hs1 HM
      obtain ⟨j, hj, rfl, H2, N2, L2, P2, ⟨M2, A2, hM2⟩, O2, B2, hs2⟩ := hrel
      have HM2 : Hid (SaidM liar c' M2) := hM2
      clear hM2
      by_cases hjl : j < c'.net.length - m
      · have hjI : (j : Int) < ((c'.net.length - m : Nat) : Int) := by omega
        obtain ⟨b, cap, hnv, rfl⟩ := HR.out (by omega)
        injection hnv with hn1 hn2 hn3
        subst hn1 hn3
        have hy : c'.net[m + j]? = some c'.net[m + j] := List.getElem?_eq_getElem (by omega)
        have hr := le_range O2 hy
        rw [Nat.add_mul] at hr
        have HY : Hid (c'.net[m + j] ∈ c'.net) := List.getElem_mem _
        have hv9 := (HC.out _ HY.out).2
        have HO : Hid (c'.net[m + j].2.f ≠ liar → OnS c' c'.net[m + j].2 c'.net[m + j].2.v) := HN.out _ HY.out
        clear hy HY
        generalize c'.net[m + j] = y at hr hv9 HO
        have hil := info_leArr y
        rename World => w3
        have Z3 : Blk (w3.alloc (.cells #[.int .i64 0, .int .i64 0, .int .i64 0, .int .i64 0, .int .i64 0, .int .i64 0, .int .i64 0] 71)) w3.heap.size #[.int .i64 0, .int .i64 0, .int .i64 0, .int .i64 0, .int .i64 0, .int .i64 0, .int .i64 0] 71 := Blk.new w3 _ _
        have La : Below w3.heap.size w3 (w3.alloc (.cells #[.int .i64 0, .int .i64 0, .int .i64 0, .int .i64 0, .int .i64 0, .int .i64 0, .int .i64 0] 71)) := by go_grown
        have hone := one_leArr y
        go_upto_region 9 with (first
          | (refine wpList_load_part (by rfl) 71 _ rfl b (m * 7 + j * 7) (by first | rfl | simp) (leArr y) _ hr Try.underlying71 rfl hil ?_)
          | (refine wpList_store_blk rfl 71 _ _ rfl w3.heap.size #[.int .i64 0, .int .i64 0, .int .i64 0, .int .i64 0, .int .i64 0, .int .i64 0, .int .i64 0] (leArr y) 71 rfl rfl Z3 rfl hil hone ?_; rintro w4 Y4 K4; have L34 := K4.bel _ _ (Nat.le_refl _) La))
        have H4 := H2.keep L34
        have N4 := N2.below L34
        have L4 := L2.below L34
        have P4 := P2.below L34
        have A4 := A2.below L34
        have O4 := own_below O2 L34
        have B4 := bel_trans B2 L34
        have hs4 : W.heap.size ≤ w4.heap.size := by have := L34.size; omega
        clear H2 N2 L2 P2 A2 O2 B2 hs2 hr Z3 La K4 L34 hone hil
        have hrw := le_word Y4
        have hiw : (Try.prog.info? 36).map (·.size) = some (wdV y.2).size := by show _ = some 6; kernel_rfl
        have Z4 : Blk (w4.alloc (.cells #[.int .i64 0, .int .i64 0, .int .i64 0, .int .i64 0, .int .i64 0, .int .i64 0] 36)) w4.heap.size #[.int .i64 0, .int .i64 0, .int .i64 0, .int .i64 0, .int .i64 0, .int .i64 0] 36 := Blk.new w4 _ _
        have La : Below w4.heap.size w4 (w4.alloc (.cells #[.int .i64 0, .int .i64 0, .int .i64 0, .int .i64 0, .int .i64 0, .int .i64 0] 36)) := by go_grown
        have hone : (wdV y.2).all (·.oneCell') = true := by show _ = _; kernel_rfl
        go_upto_region 10 with (first
          | (refine wpList_load_part (by rfl) 36 _ rfl w3.heap.size 1 (by first | rfl | simp) (wdV y.2) _ hrw Try.underlying36 rfl hiw ?_)
          | (refine wpList_store_blk rfl 36 _ _ rfl w4.heap.size #[.int .i64 0, .int .i64 0, .int .i64 0, .int .i64 0, .int .i64 0, .int .i64 0] (wdV y.2) 36 rfl rfl Z4 rfl hiw hone ?_; rintro w5 Y5 K5; have L45 := K5.bel _ _ (Nat.le_refl _) La))
        have H5 := H4.keep L45
        have N5 := N4.below L45
        have L5 := L4.below L45
        have P5 := P4.below L45
        have A5 := A4.below L45
        have O5 := own_below O4 L45
        have B5 := bel_trans B4 L45
        have hs5 : W.heap.size ≤ w5.heap.size := by have := L45.size; omega
        have hlt4 : w4.heap.size ≤ w4.heap.size := Nat.le_refl _
        have hgs : W.heap.size ≤ w4.heap.size := hs4
        clear H4 N4 L4 P4 A4 O4 B4 hs4 Z4 La K5 L45 hone hrw Y4
        generalize w4.heap.size = p at Y5 hgs ⊢
        clear hlt4
        have e4 : w5.cell? ⟨p, 4, none⟩ = some (.int .i64 y.2.v) := Y5.cell 4
        have e5 : w5.cell? ⟨p, 5, none⟩ = some (.int .i64 y.2.x) := Y5.cell 5
        have f4 := Y5.free 4
        have f5 := Y5.free 5
        have hv0 : (0 : Int) ≤ y.2.v := hv9.1
        have hv1 : y.2.v ≤ 9 := hv9.2
        go_upto_region 12 with fail
        have Y6 : Blk ((w5.setCell ⟨p, 4, none⟩ (.int .i64 0)).setCell ⟨p, 5, none⟩ (.int .i64 0)) p (wdV ⟨y.2.k, y.2.f, y.2.h, y.2.r, 0, 0⟩) 36 := (Y5.setCell 4 (.int .i64 0)).setCell 5 (.int .i64 0)
        have K1 := kept_setCell p 4 (.int .i64 0) w5
        have K2 := kept_setCell p 5 (.int .i64 0) (w5.setCell ⟨p, 4, none⟩ (.int .i64 0))
        have H6 := (H5.kept K1 Y5 (by decide) (by decide) (by decide)).kept K2 (Y5.setCell 4 (.int .i64 0)) (by decide) (by decide) (by decide)
        have N6 := K2.blk _ _ _ (blk_ne N5 Y5 (by decide)) (K1.blk _ _ _ (blk_ne N5 Y5 (by decide)) N5)
        have L6 := K2.blk _ _ _ (blk_ne L5 Y5 (by decide)) (K1.blk _ _ _ (blk_ne L5 Y5 (by decide)) L5)
        have P6 := K2.blk _ _ _ (blk_ne P5 Y5 (by decide)) (K1.blk _ _ _ (blk_ne P5 Y5 (by decide)) P5)
        have A6 := (A5.setCell Y5 4 (.int .i64 0)).setCell (Y5.setCell 4 (.int .i64 0)) 5 (.int .i64 0)
        have O6 := own_keptT (own_keptT O5 K1 Y5 (by decide)) K2 (Y5.setCell 4 (.int .i64 0)) (by decide)
        have B6 := K2.bel _ _ (by have := B0s; omega) (K1.bel _ _ (by have := B0s; omega) B5)
        have hs6 : W.heap.size ≤ ((w5.setCell ⟨p, 4, none⟩ (.int .i64 0)).setCell ⟨p, 5, none⟩ (.int .i64 0)).heap.size := by rw [K2.size, K1.size]; exact hs5
        clear H5 N5 L5 P5 A5 O5 B5 hs5 K1 K2 e4 e5 f4 f5 Y5
        generalize ((w5.setCell ⟨p, 4, none⟩ (.int .i64 0)).setCell ⟨p, 5, none⟩ (.int .i64 0)) = w6 at *
        obtain ⟨ky, hky⟩ : ∃ ky : Wd, ky = ⟨y.2.k, y.2.f, y.2.h, y.2.r, 0, 0⟩ := ⟨_, rfl⟩
        rw [← hky] at Y6
        have eF : w6.cell? ⟨p, 1, none⟩ = some (.int .i64 ky.f) := Y6.cell 1
        have HK : Hid (ky = ⟨y.2.k, y.2.f, y.2.h, y.2.r, 0, 0⟩) := hky
        have hF : ky.f = y.2.f := by rw [hky]
        clear hky
        rw [hF] at eF
        have HF : Hid (ky.f = y.2.f) := hF
        clear hF
        have eL : w6.cell? ⟨bl, 0, none⟩ = some (.int .i64 liar) := L6.cell 0
        have eP : w6.cell? ⟨bm, 0, none⟩ = some (.map (some r)) := P6.cell 0
        obtain ⟨u, hu, hlk⟩ := lookup_word A6 ky
        have hikw : (Try.prog.info? 36).map (·.size) = some (wdV ky).size := by show _ = some 6; kernel_rfl
        have HU : Hid (y.2.f ≠ liar → u = 0 ∨ u = y.2.v + 1) := fun hf => by
          rcases hu with e | ⟨en, he, e1, e2⟩
          · exact Or.inl e
          · have h1 := HM2.out en he (by rw [e1, HF.out]; exact hf)
            rw [e1, e2] at h1
            have h2 := h1.same (HO.out hf) (by rw [HK.out]) (by rw [HK.out]) (by rw [HK.out]) (by rw [HK.out])
            exact Or.inr (by omega)
        clear hu
        have HNew : Hid (∀ M3, (∀ e, e ∈ M3 → e ∈ M2 ∨ (e.1 = ky ∧ e.2.1 = y.2.v + 1)) → SaidM liar c' M3) := fun M3 h3 en he hf => by
          rcases h3 en he with h | ⟨h, h'⟩
          · exact HM2.out en h hf
          · rw [h, h']
            rw [h, HF.out] at hf
            have := HO.out hf
            rw [HK.out, show y.2.v + 1 - 1 = y.2.v by omega]
            exact this
        have hway : (y.2.f != liar) = false ∨ ((y.2.f != liar) = true ∧ (u != 0) = false) ∨ ((y.2.f != liar) = true ∧ (u != 0) = true ∧ (u != y.2.v + 1) = false) := by
          by_cases hf : y.2.f = liar
          · exact Or.inl (by simpa using hf)
          · refine Or.inr ?_
            rcases HU.out hf with e | e
            · exact Or.inl ⟨by simpa using hf, by simpa using e⟩
            · exact Or.inr ⟨by simpa using hf, by simp; omega, by simpa using e⟩
        clear HU HO
        rcases hway with d1 | ⟨d1, d2⟩ | ⟨d1, d2, d3⟩
        all_goals (
          go_wp2_with (first
            | (refine wpList_load_part (by rfl) 36 _ rfl p 0 (by first | rfl | simp) (wdV ky) _ Y6.range Try.underlying36 rfl hikw ?_)
            | (refine wpList_mapUpdate_word rfl _ _ _ rfl r M2 ky (y.2.v + 1) rfl rfl rfl A6 ?_; rintro w7 M3 A7 h3 G7))
          go_roundw
          case rel => exact ⟨j + 1, by omega, by go_num, H6.grownM G7 A6, N6.grown G7 (map_not A6 N6), L6.grown G7 (map_not A6 L6), P6.grown G7 (map_not A6 P6), ⟨M3, A7, HNew.out M3 h3⟩, O6.kept G7 (Or.inr (fun hk => by obtain ⟨_, _, cur, hc⟩ := own_block O6 r hk; exact map_not A6 hc rfl)), bel_seq B6 (below_of_grown G7 hrb (by have := B6.size; omega)), by have := G7.size; omega⟩
          case measure => simp [intOf]; omega)
      · have hjI : ¬ (j : Int) < ((c'.net.length - m : Nat) : Int) := by omega
        have eN := N2.cell 0
        have fN := N2.free 0
        rw [show (#[.int .i64 (m : Int)] : Array Value)[0]? = some (.int .i64 (m : Int)) from rfl] at eN
        go_wp2
        go_ret
        have K := kept_setCell bn 0 (.int .i64 (c'.net.length : Int)) wr
        exact ⟨rfl, H2.keptN K N2 hbg, N2.setCell 0 (.int .i64 (c'.net.length : Int)), K.blk _ _ _ (by omega) L2, K.blk _ _ _ (blk_ne P2 N2 (by decide)) P2, ⟨M2, A2.setCell N2 0 _, HM2.out⟩, by rw [K.size]; exact hs2, K.bel _ _ hnb B2⟩
  · have d1 : (x.kind == 3) = true := by simpa using c1
    have d2 : (code == 0) = false := by simpa using c2
    have hmk := HE2.out (fun h => c2 h.2)
    rw [← hmk] at N1
    clear c1 c2 HE1 HE2 hmk hk0
    go_upto_region 4 with fail
    clear eR eK
    obtain ⟨sa, c2, hsl, hrow⟩ := slice_from O1 m hm
    have eN : w2.cell? ⟨bn, 0, none⟩ = some (.int .i64 (m : Int)) := N1.cell 0
    obtain ⟨na, nc, hnv⟩ := own_shape O1
    subst hnv
    have hlenI : ¬ ((m : Int) > (c'.net.length : Int)) := by omega
    have hm0 : ¬ ((m : Int) < 0) := by omega
    go_upto_region 7 with fail
    clear eN hsl
    have HR : Hid (m < c'.net.length → ∃ b cap, Value.slice na c'.net.length nc = .slice (some ⟨b, 0, none⟩) c'.net.length cap ∧ sa = some ⟨b, m * 7, none⟩) := hrow
    clear hrow
    go_loopw [39] (fun i V => ∃ j : Nat, j ≤ c'.net.length - m ∧ i = .int .i64 (j : Int) ∧ CwAt V g 93 c' q nt ∧ Blk V bn #[.int .i64 (m : Int)] 3 ∧ Blk V bl #[.int .i64 liar] 3 ∧ Blk V bm #[.map (some r)] 69 ∧ (∃ M', MapAt V r M' ∧ SaidM liar c' M') ∧ V.ownsRow base1 71 7 (.slice na c'.net.length nc) c'.net.length (lesCells c'.net) ∧ Below w0.heap.size w0 V ∧ W.heap.size ≤ V.heap.size) (fun i _ => (c'.net.length - m) - (intOf i).toNat)
    case atStart => exact ⟨0, by omega, rfl, H1, N1, L1, P1, ⟨M, A1, HM.out⟩, O1, B1, hs1⟩
    case round =>
      clear H1 N1 L1 P1 A1 O1 B1 hs1 HM
      obtain ⟨j, hj, rfl, H2, N2, L2, P2, ⟨M2, A2, hM2⟩, O2, B2, hs2⟩ := hrel
      have HM2 : Hid (SaidM liar c' M2) := hM2
      clear hM2
      by_cases hjl : j < c'.net.length - m
      · have hjI : (j : Int) < ((c'.net.length - m : Nat) : Int) := by omega
        obtain ⟨b, cap, hnv, rfl⟩ := HR.out (by omega)
        injection hnv with hn1 hn2 hn3
        subst hn1 hn3
        have hy : c'.net[m + j]? = some c'.net[m + j] := List.getElem?_eq_getElem (by omega)
        have hr := le_range O2 hy
        rw [Nat.add_mul] at hr
        have HY : Hid (c'.net[m + j] ∈ c'.net) := List.getElem_mem _
        have hv9 := (HC.out _ HY.out).2
        have HO : Hid (c'.net[m + j].2.f ≠ liar → OnS c' c'.net[m + j].2 c'.net[m + j].2.v) := HN.out _ HY.out
        clear hy HY
        generalize c'.net[m + j] = y at hr hv9 HO
        have hil := info_leArr y
        rename World => w3
        have Z3 : Blk (w3.alloc (.cells #[.int .i64 0, .int .i64 0, .int .i64 0, .int .i64 0, .int .i64 0, .int .i64 0, .int .i64 0] 71)) w3.heap.size #[.int .i64 0, .int .i64 0, .int .i64 0, .int .i64 0, .int .i64 0, .int .i64 0, .int .i64 0] 71 := Blk.new w3 _ _
        have La : Below w3.heap.size w3 (w3.alloc (.cells #[.int .i64 0, .int .i64 0, .int .i64 0, .int .i64 0, .int .i64 0, .int .i64 0, .int .i64 0] 71)) := by go_grown
        have hone := one_leArr y
        go_upto_region 9 with (first
          | (refine wpList_load_part (by rfl) 71 _ rfl b (m * 7 + j * 7) (by first | rfl | simp) (leArr y) _ hr Try.underlying71 rfl hil ?_)
          | (refine wpList_store_blk rfl 71 _ _ rfl w3.heap.size #[.int .i64 0, .int .i64 0, .int .i64 0, .int .i64 0, .int .i64 0, .int .i64 0, .int .i64 0] (leArr y) 71 rfl rfl Z3 rfl hil hone ?_; rintro w4 Y4 K4; have L34 := K4.bel _ _ (Nat.le_refl _) La))
        have H4 := H2.keep L34
        have N4 := N2.below L34
        have L4 := L2.below L34
        have P4 := P2.below L34
        have A4 := A2.below L34
        have O4 := own_below O2 L34
        have B4 := bel_trans B2 L34
        have hs4 : W.heap.size ≤ w4.heap.size := by have := L34.size; omega
        clear H2 N2 L2 P2 A2 O2 B2 hs2 hr Z3 La K4 L34 hone hil
        have hrw := le_word Y4
        have hiw : (Try.prog.info? 36).map (·.size) = some (wdV y.2).size := by show _ = some 6; kernel_rfl
        have Z4 : Blk (w4.alloc (.cells #[.int .i64 0, .int .i64 0, .int .i64 0, .int .i64 0, .int .i64 0, .int .i64 0] 36)) w4.heap.size #[.int .i64 0, .int .i64 0, .int .i64 0, .int .i64 0, .int .i64 0, .int .i64 0] 36 := Blk.new w4 _ _
        have La : Below w4.heap.size w4 (w4.alloc (.cells #[.int .i64 0, .int .i64 0, .int .i64 0, .int .i64 0, .int .i64 0, .int .i64 0] 36)) := by go_grown
        have hone : (wdV y.2).all (·.oneCell') = true := by show _ = _; kernel_rfl
        go_upto_region 10 with (first
          | (refine wpList_load_part (by rfl) 36 _ rfl w3.heap.size 1 (by first | rfl | simp) (wdV y.2) _ hrw Try.underlying36 rfl hiw ?_)
          | (refine wpList_store_blk rfl 36 _ _ rfl w4.heap.size #[.int .i64 0, .int .i64 0, .int .i64 0, .int .i64 0, .int .i64 0, .int .i64 0] (wdV y.2) 36 rfl rfl Z4 rfl hiw hone ?_; rintro w5 Y5 K5; have L45 := K5.bel _ _ (Nat.le_refl _) La))
        have H5 := H4.keep L45
        have N5 := N4.below L45
        have L5 := L4.below L45
        have P5 := P4.below L45
        have A5 := A4.below L45
        have O5 := own_below O4 L45
        have B5 := bel_trans B4 L45
        have hs5 : W.heap.size ≤ w5.heap.size := by have := L45.size; omega
        have hlt4 : w4.heap.size ≤ w4.heap.size := Nat.le_refl _
        have hgs : W.heap.size ≤ w4.heap.size := hs4
        clear H4 N4 L4 P4 A4 O4 B4 hs4 Z4 La K5 L45 hone hrw Y4
        generalize w4.heap.size = p at Y5 hgs ⊢
        clear hlt4
        have e4 : w5.cell? ⟨p, 4, none⟩ = some (.int .i64 y.2.v) := Y5.cell 4
        have e5 : w5.cell? ⟨p, 5, none⟩ = some (.int .i64 y.2.x) := Y5.cell 5
        have f4 := Y5.free 4
        have f5 := Y5.free 5
        have hv0 : (0 : Int) ≤ y.2.v := hv9.1
        have hv1 : y.2.v ≤ 9 := hv9.2
        go_upto_region 12 with fail
        have Y6 : Blk ((w5.setCell ⟨p, 4, none⟩ (.int .i64 0)).setCell ⟨p, 5, none⟩ (.int .i64 0)) p (wdV ⟨y.2.k, y.2.f, y.2.h, y.2.r, 0, 0⟩) 36 := (Y5.setCell 4 (.int .i64 0)).setCell 5 (.int .i64 0)
        have K1 := kept_setCell p 4 (.int .i64 0) w5
        have K2 := kept_setCell p 5 (.int .i64 0) (w5.setCell ⟨p, 4, none⟩ (.int .i64 0))
        have H6 := (H5.kept K1 Y5 (by decide) (by decide) (by decide)).kept K2 (Y5.setCell 4 (.int .i64 0)) (by decide) (by decide) (by decide)
        have N6 := K2.blk _ _ _ (blk_ne N5 Y5 (by decide)) (K1.blk _ _ _ (blk_ne N5 Y5 (by decide)) N5)
        have L6 := K2.blk _ _ _ (blk_ne L5 Y5 (by decide)) (K1.blk _ _ _ (blk_ne L5 Y5 (by decide)) L5)
        have P6 := K2.blk _ _ _ (blk_ne P5 Y5 (by decide)) (K1.blk _ _ _ (blk_ne P5 Y5 (by decide)) P5)
        have A6 := (A5.setCell Y5 4 (.int .i64 0)).setCell (Y5.setCell 4 (.int .i64 0)) 5 (.int .i64 0)
        have O6 := own_keptT (own_keptT O5 K1 Y5 (by decide)) K2 (Y5.setCell 4 (.int .i64 0)) (by decide)
        have B6 := K2.bel _ _ (by have := B0s; omega) (K1.bel _ _ (by have := B0s; omega) B5)
        have hs6 : W.heap.size ≤ ((w5.setCell ⟨p, 4, none⟩ (.int .i64 0)).setCell ⟨p, 5, none⟩ (.int .i64 0)).heap.size := by rw [K2.size, K1.size]; exact hs5
        clear H5 N5 L5 P5 A5 O5 B5 hs5 K1 K2 e4 e5 f4 f5 Y5
        generalize ((w5.setCell ⟨p, 4, none⟩ (.int .i64 0)).setCell ⟨p, 5, none⟩ (.int .i64 0)) = w6 at *
        obtain ⟨ky, hky⟩ : ∃ ky : Wd, ky = ⟨y.2.k, y.2.f, y.2.h, y.2.r, 0, 0⟩ := ⟨_, rfl⟩
        rw [← hky] at Y6
        have eF : w6.cell? ⟨p, 1, none⟩ = some (.int .i64 ky.f) := Y6.cell 1
        have HK : Hid (ky = ⟨y.2.k, y.2.f, y.2.h, y.2.r, 0, 0⟩) := hky
        have hF : ky.f = y.2.f := by rw [hky]
        clear hky
        rw [hF] at eF
        have HF : Hid (ky.f = y.2.f) := hF
        clear hF
        have eL : w6.cell? ⟨bl, 0, none⟩ = some (.int .i64 liar) := L6.cell 0
        have eP : w6.cell? ⟨bm, 0, none⟩ = some (.map (some r)) := P6.cell 0
        obtain ⟨u, hu, hlk⟩ := lookup_word A6 ky
        have hikw : (Try.prog.info? 36).map (·.size) = some (wdV ky).size := by show _ = some 6; kernel_rfl
        have HU : Hid (y.2.f ≠ liar → u = 0 ∨ u = y.2.v + 1) := fun hf => by
          rcases hu with e | ⟨en, he, e1, e2⟩
          · exact Or.inl e
          · have h1 := HM2.out en he (by rw [e1, HF.out]; exact hf)
            rw [e1, e2] at h1
            have h2 := h1.same (HO.out hf) (by rw [HK.out]) (by rw [HK.out]) (by rw [HK.out]) (by rw [HK.out])
            exact Or.inr (by omega)
        clear hu
        have HNew : Hid (∀ M3, (∀ e, e ∈ M3 → e ∈ M2 ∨ (e.1 = ky ∧ e.2.1 = y.2.v + 1)) → SaidM liar c' M3) := fun M3 h3 en he hf => by
          rcases h3 en he with h | ⟨h, h'⟩
          · exact HM2.out en h hf
          · rw [h, h']
            rw [h, HF.out] at hf
            have := HO.out hf
            rw [HK.out, show y.2.v + 1 - 1 = y.2.v by omega]
            exact this
        have hway : (y.2.f != liar) = false ∨ ((y.2.f != liar) = true ∧ (u != 0) = false) ∨ ((y.2.f != liar) = true ∧ (u != 0) = true ∧ (u != y.2.v + 1) = false) := by
          by_cases hf : y.2.f = liar
          · exact Or.inl (by simpa using hf)
          · refine Or.inr ?_
            rcases HU.out hf with e | e
            · exact Or.inl ⟨by simpa using hf, by simpa using e⟩
            · exact Or.inr ⟨by simpa using hf, by simp; omega, by simpa using e⟩
        clear HU HO
        rcases hway with d1 | ⟨d1, d2⟩ | ⟨d1, d2, d3⟩
        all_goals (
          go_wp2_with (first
            | (refine wpList_load_part (by rfl) 36 _ rfl p 0 (by first | rfl | simp) (wdV ky) _ Y6.range Try.underlying36 rfl hikw ?_)
            | (refine wpList_mapUpdate_word rfl _ _ _ rfl r M2 ky (y.2.v + 1) rfl rfl rfl A6 ?_; rintro w7 M3 A7 h3 G7))
          go_roundw
          case rel => exact ⟨j + 1, by omega, by go_num, H6.grownM G7 A6, N6.grown G7 (map_not A6 N6), L6.grown G7 (map_not A6 L6), P6.grown G7 (map_not A6 P6), ⟨M3, A7, HNew.out M3 h3⟩, O6.kept G7 (Or.inr (fun hk => by obtain ⟨_, _, cur, hc⟩ := own_block O6 r hk; exact map_not A6 hc rfl)), bel_seq B6 (below_of_grown G7 hrb (by have := B6.size; omega)), by have := G7.size; omega⟩
          case measure => simp [intOf]; omega)
      · have hjI : ¬ (j : Int) < ((c'.net.length - m : Nat) : Int) := by omega
        have eN := N2.cell 0
        have fN := N2.free 0
        rw [show (#[.int .i64 (m : Int)] : Array Value)[0]? = some (.int .i64 (m : Int)) from rfl] at eN
        go_wp2
        go_ret
        have K := kept_setCell bn 0 (.int .i64 (c'.net.length : Int)) wr
        exact ⟨rfl, H2.keptN K N2 hbg, N2.setCell 0 (.int .i64 (c'.net.length : Int)), K.blk _ _ _ (by omega) L2, K.blk _ _ _ (blk_ne P2 N2 (by decide)) P2, ⟨M2, A2.setCell N2 0 _, HM2.out⟩, by rw [K.size]; exact hs2, K.bel _ _ hnb B2⟩
  · have d1 : (x.kind == 3) = true := by simpa using c1
    have d2 : (code == 0) = true := by simpa using c2
    have hmk := HE1.out ⟨c1, c2⟩
    have eN : w2.cell? ⟨bn, 0, none⟩ = some (.int .i64 (k0 : Int)) := N1.cell 0
    have fN := N1.free 0
    have hkI : (k0 : Int) ≤ 2000 := by omega
    have hkJ : (0 : Int) ≤ (k0 : Int) := by omega
    clear c1 c2 HE1 HE2
    go_upto_region 4 with fail
    have K := kept_setCell bn 0 (.int .i64 ((k0 : Int) - 1)) w2
    have N1' : Blk (w2.setCell ⟨bn, 0, none⟩ (.int .i64 ((k0 : Int) - 1))) bn #[.int .i64 ((k0 : Int) - 1)] 3 := N1.setCell 0 _
    rw [← hmk] at N1'
    have H1' := H1.keptN K N1 hbg
    have L1' := K.blk _ _ _ hlb L1
    have P1' := K.blk _ _ _ (blk_ne P1 N1 (by decide)) P1
    have A1' := A1.setCell N1 0 (.int .i64 ((k0 : Int) - 1))
    have O1' := own_keptT O1 K N1 (by decide)
    have B1' := K.bel _ _ hnb B1
    have hs1' : W.heap.size ≤ (w2.setCell ⟨bn, 0, none⟩ (.int .i64 ((k0 : Int) - 1))).heap.size := by rw [K.size]; exact hs1
    rw [← hmk] at H1' L1' P1' A1' O1' B1' hs1' ⊢
    clear eR eK eN fN hkI hkJ hk0 K H1 N1 L1 P1 A1 O1 B1 hs1 hmk
    have H1 := H1'
    have N1 := N1'
    have L1 := L1'
    have P1 := P1'
    have A1 := A1'
    have O1 := O1'
    have B1 := B1'
    have hs1 := hs1'
    clear H1' N1' L1' P1' A1' O1' B1' hs1'
    generalize w2.setCell ⟨bn, 0, none⟩ (.int .i64 (m : Int)) = w2 at *
    obtain ⟨sa, c2, hsl, hrow⟩ := slice_from O1 m hm
    have eN : w2.cell? ⟨bn, 0, none⟩ = some (.int .i64 (m : Int)) := N1.cell 0
    obtain ⟨na, nc, hnv⟩ := own_shape O1
    subst hnv
    have hlenI : ¬ ((m : Int) > (c'.net.length : Int)) := by omega
    have hm0 : ¬ ((m : Int) < 0) := by omega
    go_upto_region 7 with fail
    clear eN hsl
    have HR : Hid (m < c'.net.length → ∃ b cap, Value.slice na c'.net.length nc = .slice (some ⟨b, 0, none⟩) c'.net.length cap ∧ sa = some ⟨b, m * 7, none⟩) := hrow
    clear hrow
    go_loopw [39] (fun i V => ∃ j : Nat, j ≤ c'.net.length - m ∧ i = .int .i64 (j : Int) ∧ CwAt V g 93 c' q nt ∧ Blk V bn #[.int .i64 (m : Int)] 3 ∧ Blk V bl #[.int .i64 liar] 3 ∧ Blk V bm #[.map (some r)] 69 ∧ (∃ M', MapAt V r M' ∧ SaidM liar c' M') ∧ V.ownsRow base1 71 7 (.slice na c'.net.length nc) c'.net.length (lesCells c'.net) ∧ Below w0.heap.size w0 V ∧ W.heap.size ≤ V.heap.size) (fun i _ => (c'.net.length - m) - (intOf i).toNat)
    case atStart => exact ⟨0, by omega, rfl, H1, N1, L1, P1, ⟨M, A1, HM.out⟩, O1, B1, hs1⟩
    case round =>
      clear H1 N1 L1 P1 A1 O1 B1 hs1 HM
      obtain ⟨j, hj, rfl, H2, N2, L2, P2, ⟨M2, A2, hM2⟩, O2, B2, hs2⟩ := hrel
      have HM2 : Hid (SaidM liar c' M2) := hM2
      clear hM2
      by_cases hjl : j < c'.net.length - m
      · have hjI : (j : Int) < ((c'.net.length - m : Nat) : Int) := by omega
        obtain ⟨b, cap, hnv, rfl⟩ := HR.out (by omega)
        injection hnv with hn1 hn2 hn3
        subst hn1 hn3
        have hy : c'.net[m + j]? = some c'.net[m + j] := List.getElem?_eq_getElem (by omega)
        have hr := le_range O2 hy
        rw [Nat.add_mul] at hr
        have HY : Hid (c'.net[m + j] ∈ c'.net) := List.getElem_mem _
        have hv9 := (HC.out _ HY.out).2
        have HO : Hid (c'.net[m + j].2.f ≠ liar → OnS c' c'.net[m + j].2 c'.net[m + j].2.v) := HN.out _ HY.out
        clear hy HY
        generalize c'.net[m + j] = y at hr hv9 HO
        have hil := info_leArr y
        rename World => w3
        have Z3 : Blk (w3.alloc (.cells #[.int .i64 0, .int .i64 0, .int .i64 0, .int .i64 0, .int .i64 0, .int .i64 0, .int .i64 0] 71)) w3.heap.size #[.int .i64 0, .int .i64 0, .int .i64 0, .int .i64 0, .int .i64 0, .int .i64 0, .int .i64 0] 71 := Blk.new w3 _ _
        have La : Below w3.heap.size w3 (w3.alloc (.cells #[.int .i64 0, .int .i64 0, .int .i64 0, .int .i64 0, .int .i64 0, .int .i64 0, .int .i64 0] 71)) := by go_grown
        have hone := one_leArr y
        go_upto_region 9 with (first
          | (refine wpList_load_part (by rfl) 71 _ rfl b (m * 7 + j * 7) (by first | rfl | simp) (leArr y) _ hr Try.underlying71 rfl hil ?_)
          | (refine wpList_store_blk rfl 71 _ _ rfl w3.heap.size #[.int .i64 0, .int .i64 0, .int .i64 0, .int .i64 0, .int .i64 0, .int .i64 0, .int .i64 0] (leArr y) 71 rfl rfl Z3 rfl hil hone ?_; rintro w4 Y4 K4; have L34 := K4.bel _ _ (Nat.le_refl _) La))
        have H4 := H2.keep L34
        have N4 := N2.below L34
        have L4 := L2.below L34
        have P4 := P2.below L34
        have A4 := A2.below L34
        have O4 := own_below O2 L34
        have B4 := bel_trans B2 L34
        have hs4 : W.heap.size ≤ w4.heap.size := by have := L34.size; omega
        clear H2 N2 L2 P2 A2 O2 B2 hs2 hr Z3 La K4 L34 hone hil
        have hrw := le_word Y4
        have hiw : (Try.prog.info? 36).map (·.size) = some (wdV y.2).size := by show _ = some 6; kernel_rfl
        have Z4 : Blk (w4.alloc (.cells #[.int .i64 0, .int .i64 0, .int .i64 0, .int .i64 0, .int .i64 0, .int .i64 0] 36)) w4.heap.size #[.int .i64 0, .int .i64 0, .int .i64 0, .int .i64 0, .int .i64 0, .int .i64 0] 36 := Blk.new w4 _ _
        have La : Below w4.heap.size w4 (w4.alloc (.cells #[.int .i64 0, .int .i64 0, .int .i64 0, .int .i64 0, .int .i64 0, .int .i64 0] 36)) := by go_grown
        have hone : (wdV y.2).all (·.oneCell') = true := by show _ = _; kernel_rfl
        go_upto_region 10 with (first
          | (refine wpList_load_part (by rfl) 36 _ rfl w3.heap.size 1 (by first | rfl | simp) (wdV y.2) _ hrw Try.underlying36 rfl hiw ?_)
          | (refine wpList_store_blk rfl 36 _ _ rfl w4.heap.size #[.int .i64 0, .int .i64 0, .int .i64 0, .int .i64 0, .int .i64 0, .int .i64 0] (wdV y.2) 36 rfl rfl Z4 rfl hiw hone ?_; rintro w5 Y5 K5; have L45 := K5.bel _ _ (Nat.le_refl _) La))
        have H5 := H4.keep L45
        have N5 := N4.below L45
        have L5 := L4.below L45
        have P5 := P4.below L45
        have A5 := A4.below L45
        have O5 := own_below O4 L45
        have B5 := bel_trans B4 L45
        have hs5 : W.heap.size ≤ w5.heap.size := by have := L45.size; omega
        have hlt4 : w4.heap.size ≤ w4.heap.size := Nat.le_refl _
        have hgs : W.heap.size ≤ w4.heap.size := hs4
        clear H4 N4 L4 P4 A4 O4 B4 hs4 Z4 La K5 L45 hone hrw Y4
        generalize w4.heap.size = p at Y5 hgs ⊢
        clear hlt4
        have e4 : w5.cell? ⟨p, 4, none⟩ = some (.int .i64 y.2.v) := Y5.cell 4
        have e5 : w5.cell? ⟨p, 5, none⟩ = some (.int .i64 y.2.x) := Y5.cell 5
        have f4 := Y5.free 4
        have f5 := Y5.free 5
        have hv0 : (0 : Int) ≤ y.2.v := hv9.1
        have hv1 : y.2.v ≤ 9 := hv9.2
        go_upto_region 12 with fail
        have Y6 : Blk ((w5.setCell ⟨p, 4, none⟩ (.int .i64 0)).setCell ⟨p, 5, none⟩ (.int .i64 0)) p (wdV ⟨y.2.k, y.2.f, y.2.h, y.2.r, 0, 0⟩) 36 := (Y5.setCell 4 (.int .i64 0)).setCell 5 (.int .i64 0)
        have K1 := kept_setCell p 4 (.int .i64 0) w5
        have K2 := kept_setCell p 5 (.int .i64 0) (w5.setCell ⟨p, 4, none⟩ (.int .i64 0))
        have H6 := (H5.kept K1 Y5 (by decide) (by decide) (by decide)).kept K2 (Y5.setCell 4 (.int .i64 0)) (by decide) (by decide) (by decide)
        have N6 := K2.blk _ _ _ (blk_ne N5 Y5 (by decide)) (K1.blk _ _ _ (blk_ne N5 Y5 (by decide)) N5)
        have L6 := K2.blk _ _ _ (blk_ne L5 Y5 (by decide)) (K1.blk _ _ _ (blk_ne L5 Y5 (by decide)) L5)
        have P6 := K2.blk _ _ _ (blk_ne P5 Y5 (by decide)) (K1.blk _ _ _ (blk_ne P5 Y5 (by decide)) P5)
        have A6 := (A5.setCell Y5 4 (.int .i64 0)).setCell (Y5.setCell 4 (.int .i64 0)) 5 (.int .i64 0)
        have O6 := own_keptT (own_keptT O5 K1 Y5 (by decide)) K2 (Y5.setCell 4 (.int .i64 0)) (by decide)
        have B6 := K2.bel _ _ (by have := B0s; omega) (K1.bel _ _ (by have := B0s; omega) B5)
        have hs6 : W.heap.size ≤ ((w5.setCell ⟨p, 4, none⟩ (.int .i64 0)).setCell ⟨p, 5, none⟩ (.int .i64 0)).heap.size := by rw [K2.size, K1.size]; exact hs5
        clear H5 N5 L5 P5 A5 O5 B5 hs5 K1 K2 e4 e5 f4 f5 Y5
        generalize ((w5.setCell ⟨p, 4, none⟩ (.int .i64 0)).setCell ⟨p, 5, none⟩ (.int .i64 0)) = w6 at *
        obtain ⟨ky, hky⟩ : ∃ ky : Wd, ky = ⟨y.2.k, y.2.f, y.2.h, y.2.r, 0, 0⟩ := ⟨_, rfl⟩
        rw [← hky] at Y6
        have eF : w6.cell? ⟨p, 1, none⟩ = some (.int .i64 ky.f) := Y6.cell 1
        have HK : Hid (ky = ⟨y.2.k, y.2.f, y.2.h, y.2.r, 0, 0⟩) := hky
        have hF : ky.f = y.2.f := by rw [hky]
        clear hky
        rw [hF] at eF
        have HF : Hid (ky.f = y.2.f) := hF
        clear hF
        have eL : w6.cell? ⟨bl, 0, none⟩ = some (.int .i64 liar) := L6.cell 0
        have eP : w6.cell? ⟨bm, 0, none⟩ = some (.map (some r)) := P6.cell 0
        obtain ⟨u, hu, hlk⟩ := lookup_word A6 ky
        have hikw : (Try.prog.info? 36).map (·.size) = some (wdV ky).size := by show _ = some 6; kernel_rfl
        have HU : Hid (y.2.f ≠ liar → u = 0 ∨ u = y.2.v + 1) := fun hf => by
          rcases hu with e | ⟨en, he, e1, e2⟩
          · exact Or.inl e
          · have h1 := HM2.out en he (by rw [e1, HF.out]; exact hf)
            rw [e1, e2] at h1
            have h2 := h1.same (HO.out hf) (by rw [HK.out]) (by rw [HK.out]) (by rw [HK.out]) (by rw [HK.out])
            exact Or.inr (by omega)
        clear hu
        have HNew : Hid (∀ M3, (∀ e, e ∈ M3 → e ∈ M2 ∨ (e.1 = ky ∧ e.2.1 = y.2.v + 1)) → SaidM liar c' M3) := fun M3 h3 en he hf => by
          rcases h3 en he with h | ⟨h, h'⟩
          · exact HM2.out en h hf
          · rw [h, h']
            rw [h, HF.out] at hf
            have := HO.out hf
            rw [HK.out, show y.2.v + 1 - 1 = y.2.v by omega]
            exact this
        have hway : (y.2.f != liar) = false ∨ ((y.2.f != liar) = true ∧ (u != 0) = false) ∨ ((y.2.f != liar) = true ∧ (u != 0) = true ∧ (u != y.2.v + 1) = false) := by
          by_cases hf : y.2.f = liar
          · exact Or.inl (by simpa using hf)
          · refine Or.inr ?_
            rcases HU.out hf with e | e
            · exact Or.inl ⟨by simpa using hf, by simpa using e⟩
            · exact Or.inr ⟨by simpa using hf, by simp; omega, by simpa using e⟩
        clear HU HO
        rcases hway with d1 | ⟨d1, d2⟩ | ⟨d1, d2, d3⟩
        all_goals (
          go_wp2_with (first
            | (refine wpList_load_part (by rfl) 36 _ rfl p 0 (by first | rfl | simp) (wdV ky) _ Y6.range Try.underlying36 rfl hikw ?_)
            | (refine wpList_mapUpdate_word rfl _ _ _ rfl r M2 ky (y.2.v + 1) rfl rfl rfl A6 ?_; rintro w7 M3 A7 h3 G7))
          go_roundw
          case rel => exact ⟨j + 1, by omega, by go_num, H6.grownM G7 A6, N6.grown G7 (map_not A6 N6), L6.grown G7 (map_not A6 L6), P6.grown G7 (map_not A6 P6), ⟨M3, A7, HNew.out M3 h3⟩, O6.kept G7 (Or.inr (fun hk => by obtain ⟨_, _, cur, hc⟩ := own_block O6 r hk; exact map_not A6 hc rfl)), bel_seq B6 (below_of_grown G7 hrb (by have := B6.size; omega)), by have := G7.size; omega⟩
          case measure => simp [intOf]; omega)
      · have hjI : ¬ (j : Int) < ((c'.net.length - m : Nat) : Int) := by omega
        have eN := N2.cell 0
        have fN := N2.free 0
        rw [show (#[.int .i64 (m : Int)] : Array Value)[0]? = some (.int .i64 (m : Int)) from rfl] at eN
        go_wp2
        go_ret
        have K := kept_setCell bn 0 (.int .i64 (c'.net.length : Int)) wr
        exact ⟨rfl, H2.keptN K N2 hbg, N2.setCell 0 (.int .i64 (c'.net.length : Int)), K.blk _ _ _ (by omega) L2, K.blk _ _ _ (blk_ne P2 N2 (by decide)) P2, ⟨M2, A2.setCell N2 0 _, HM2.out⟩, by rw [K.size]; exact hs2, K.bel _ _ hnb B2⟩

set_option maxRecDepth 100000 in
set_option maxHeartbeats 4000000 in
theorem topTrue_any (n : Int) (l : List Ac) (s : Value) (w : World) (hs : ActsAt w s l) (hlen : l.length < 4611686018427387904) :
    Calls Try.prog 11 #[.int .i64 n, s] w fun e w' => e = .returned (.bool true) ∧ Below w.heap.size w w' := by
  have hl := liesV_bd n
  have LK : ∀ w1 : World, w.heap.size + 4 ≤ w1.heap.size → MapAt w1 (w.heap.size + 1) [] → Blk w1 w.heap.size #[.int .i64 (liesV n)] 3 → Blk w1 (w.heap.size + 2) #[.map (some (w.heap.size + 1))] 69 → Blk w1 (w.heap.size + 3) #[.int .i64 0] 3 →
      LooksG 32 #[.pointer (some ⟨w.heap.size + 3, 0, none⟩), .pointer (some ⟨w.heap.size, 0, none⟩), .pointer (some ⟨w.heap.size + 2, 0, none⟩)] (liesV n) l w w1
        (fun k g _ _ W => w.heap.size + 4 ≤ g ∧ (∃ M, MapAt W (w.heap.size + 1) M ∧ SaidM (liesV n) (playC (liesV n) l k) M) ∧ Blk W w.heap.size #[.int .i64 (liesV n)] 3 ∧ Blk W (w.heap.size + 2) #[.map (some (w.heap.size + 1))] 69 ∧ Blk W (w.heap.size + 3) #[.int .i64 ((playC (liesV n) l k).net.length : Int)] 3)
        (fun k g _ _ W => w.heap.size + 4 ≤ g ∧ (∃ M, MapAt W (w.heap.size + 1) M ∧ SaidM (liesV n) (playC (liesV n) l k) M) ∧ Blk W w.heap.size #[.int .i64 (liesV n)] 3 ∧ Blk W (w.heap.size + 2) #[.map (some (w.heap.size + 1))] 69 ∧ Blk W (w.heap.size + 3) #[.int .i64 ((playC (liesV n) l k).net.length : Int)] 3) := by
    intro w1 hz1 m1 l1 p1 n1
    refine ⟨fun _ _ => by show _ = _; kernel_rfl, fun g W hg hW hB => ?_, fun k g q nt W W' hI hb => ?_, fun k g x q q' nt nt' W W' hx hI hc ht _ _ => ?_, fun k g x q nt W hx hW hg _ hI hB => ?_⟩
    · exact ⟨by omega, ⟨[], m1.below hB, fun e he => by cases he⟩, l1.below hB, p1.below hB, n1.below hB⟩
    · obtain ⟨h1, ⟨M, h2, h3⟩, h4, h5, h6⟩ := hI
      exact ⟨h1, ⟨M, h2.below hb, h3⟩, h4.below hb, h5.below hb, h6.below hb⟩
    · obtain ⟨h1, ⟨M, h2, h3⟩, h4, h5, h6⟩ := hI
      exact ⟨h1, ⟨M, h2.touch hc ht, h3⟩, ht.blk hc.blk hc.net h4 (by decide) (by decide), ht.blk hc.blk hc.net h5 (by decide) (by decide), ht.blk hc.blk hc.net h6 (by decide) (by decide)⟩
    · obtain ⟨h1, ⟨M, h2, h3⟩, h4, h5, h6⟩ := hI
      have hp := playC_succ (liar := liesV n) hx
      have G := playC_good hl l k
      have G' := playC_good hl l (k + 1)
      have hgrow := (do_CC G (playC_CC hl l k) x).2
      obtain ⟨m, hm, hm1, hm2⟩ := do_len G x
      rw [← hp] at hgrow hm
      obtain ⟨code, nn, f, hrep⟩ := do_isRep (playC (liesV n) l k) x
      have hcode : (doC (playC (liesV n) l k) x).2[0]? = some (.int .i64 0) ↔ code = 0 := by
        rw [hrep]
        constructor
        · intro h
          have h' : some (Value.int .i64 code) = some (.int .i64 0) := h
          injection h' with h'
          injection h' with _ h'
        · rintro rfl; rfl
      rw [hcode] at hm1 hm2
      rw [hrep]
      have T := playC_TI hl l (k + 1)
      have C := playC_CC hl l (k + 1)
      have hli := playC_liar (liesV n) l (k + 1)
      refine (says_look (w.heap.size + 3) w.heap.size (w.heap.size + 2) (w.heap.size + 1) (liesV n) (playC (liesV n) l (k + 1)) x code nn f (playC (liesV n) l k).net.length m M g q nt w W G'.net G.net hm hm1 hm2 (fun e he hf => (h3 e he hf).grow hgrow) (fun y hy hf => net_on hli T C hy hf) (fun y hy => C.kinds y hy) hW (by omega) (by omega) (by omega) (by omega) h6 h4 h5 h2 hB).mono ?_
      rintro e W' ⟨rfl, z1, z2, z3, z4, z5, z6, z7⟩
      exact ⟨rfl, z1, ⟨h1, z5, z3, z4, z2⟩, z6, z7⟩
  have hplay := fun w1 hz1 m1 l1 p1 n1 (hW : Below w.heap.size w w1) => play_genG 32 #[.pointer (some ⟨w.heap.size + 3, 0, none⟩), .pointer (some ⟨w.heap.size, 0, none⟩), .pointer (some ⟨w.heap.size + 2, 0, none⟩)] (liesV n) hl l s w w1 _ _ (fun W' hW' => hs.keep hW') hlen hW (LK w1 hz1 m1 l1 p1 n1)
  have HP : Hid _ := hplay
  clear hplay LK
  obtain ⟨sa, sc, hsv⟩ := hs.len
  subst hsv
  clear hs
  have B0 : Blk (w.alloc (.cells #[.int .i64 n] 3)) w.heap.size #[.int .i64 n] 3 := Blk.new w _ _
  have L0 : Below w.heap.size w (w.alloc (.cells #[.int .i64 n] 3)) := by go_grown
  have Z0 : (w.alloc (.cells #[.int .i64 n] 3)).heap.size = w.heap.size + 1 := by simp
  go_enter Try.func11, Try.ntmps11
  go_upto_region 1 with fail
  generalize (w.alloc (.cells #[.int .i64 n] 3)) = w1 at B0 L0 Z0 ⊢
  have e0 : w1.cell? ⟨w.heap.size, 0, none⟩ = some (.int .i64 n) := B0.cell 0
  have f0 := B0.free 0
  have B1 : Blk (w1.setCell ⟨w.heap.size, 0, none⟩ (.int .i64 (liesV n))) w.heap.size #[.int .i64 (liesV n)] 3 := B0.setCell 0 _
  have L1 := (kept_setCell w.heap.size 0 (.int .i64 (liesV n)) w1).bel _ _ (Nat.le_refl _) L0
  have Z1 := (kept_setCell w.heap.size 0 (.int .i64 (liesV n)) w1).size
  rw [Z0] at Z1
  go_upto_region 2 with (first
    | (go_at_call 26; refine (lies_any n _).mono ?_; rintro e w' ⟨rfl, hw'⟩; obtain rfl := hw'.symm))
  clear B0 L0 e0 f0 Z0
  generalize w1.setCell ⟨w.heap.size, 0, none⟩ (.int .i64 (liesV n)) = w2 at *
  have hmm := @run_makeMap Try.prog
  have key : ∀ (V : World) (o : Obj), Below V.heap.size V (V.alloc o) := fun V o => by
    have G := World.grownBy_alloc V o none
    exact ⟨G.os, G.tape, G.output, G.size, fun k hk => G.block k hk (by simp)⟩
  have M2 : MapAt (w2.alloc (.map #[] 0)) (w.heap.size + 1) [] := ⟨0, by rw [← Z1]; exact heap_alloc_new w2 _⟩
  have M3 : MapAt (((w2.alloc (.map #[] 0)).alloc (.cells #[.map (some (w.heap.size + 1))] 69)).alloc (.cells #[.int .i64 0] 3)) (w.heap.size + 1) [] := (M2.below (key _ _)).below (key _ _)
  have P3 : Blk (((w2.alloc (.map #[] 0)).alloc (.cells #[.map (some (w.heap.size + 1))] 69)).alloc (.cells #[.int .i64 0] 3)) (w.heap.size + 2) #[.map (some (w.heap.size + 1))] 69 := by
    have h := (Blk.new1 w2 (.map #[] 0) #[.map (some (w.heap.size + 1))] 69).alloc (.cells #[.int .i64 0] 3)
    rw [Z1] at h; exact h
  have N3 : Blk (((w2.alloc (.map #[] 0)).alloc (.cells #[.map (some (w.heap.size + 1))] 69)).alloc (.cells #[.int .i64 0] 3)) (w.heap.size + 3) #[.int .i64 0] 3 := by
    have h := Blk.new2 w2 (.map #[] 0) (.cells #[.map (some (w.heap.size + 1))] 69) #[.int .i64 0] 3
    rw [Z1] at h; exact h
  have L23 : Below w2.heap.size w2 (((w2.alloc (.map #[] 0)).alloc (.cells #[.map (some (w.heap.size + 1))] 69)).alloc (.cells #[.int .i64 0] 3)) := bel_trans (bel_trans (key _ _) (key _ _)) (key _ _)
  have B3 := B1.below L23
  have L3 := bel_trans L1 L23
  have Z3 : w.heap.size + 4 ≤ (((w2.alloc (.map #[] 0)).alloc (.cells #[.map (some (w.heap.size + 1))] 69)).alloc (.cells #[.int .i64 0] 3)).heap.size := by simp [Z1]
  go_upto_region 4 with fail
  clear hmm M2 L23 B1 L1 key
  generalize (((w2.alloc (.map #[] 0)).alloc (.cells #[.map (some (w.heap.size + 1))] 69)).alloc (.cells #[.int .i64 0] 3)) = w3 at *
  have e1 : w3.cell? ⟨w.heap.size, 0, none⟩ = some (.int .i64 (liesV n)) := B3.cell 0
  go_wp2_with (first
    | (go_at_call 27; refine (HP.out w3 Z3 M3 B3 P3 N3 L3).mono ?_; rintro e w4 ⟨g, q, nt, rfl, hg, H1, hnt, _, hsz1, hB1⟩))
  go_ret
  exact ⟨rfl, hB1⟩
end Go.Proofs.Ytmmgaonlmpajbab
