/-
  The statement TopStays.
-/
import Derived.Test.YtmmgaonlmpajbabClientsLaw
namespace Go.Proofs.Ytmmgaonlmpajbab
open Go.RowKit

/-- What is settled stays so. -/
def Keeps (n n' : Nd) : Prop := ∀ h, h < 4 → n.settled h ≠ 0 → n'.settled h = n.settled h
theorem Keeps.refl (n : Nd) : Keeps n n := fun _ _ _ => rfl
theorem keeps_step {who : Nat} {n n' : Nd} (G : GN n) (h : Step who n n') : Keeps n n' := fun g hg hne => by
  by_cases hh : g < n.height
  · exact h.old g hh
  · exact absurd (G.high g (by omega) hg) hne
theorem keeps_did {c : Cw} {i : Nat} {a : At} (h : Keeps (c.nd i) a.n) (k : Nat) : Keeps (c.nd k) ((c.did i a).nd k) := by
  show Keeps (c.nd k) (if k = i then a.n else c.nd k)
  by_cases e : k = i
  · subst e; rw [if_pos rfl]; exact h
  · rw [if_neg e]; exact Keeps.refl _
theorem keeps_hear {c : Cw} (G : CG c) {i : Nat} (hi : i < 4) (v : Wd) (k : Nat) : Keeps (c.nd k) ((hearC c i v).1.nd k) := by
  unfold hearC
  split
  · have hw := G.nd i hi
    have hs : GN ((c.nd i).setSheet v.h.toNat (hearW ((c.nd i).heard v.h.toNat) v)) := hw.good.hear _ v
    have st := follow_step (who := i) (a := ⟨(c.nd i).setSheet v.h.toNat (hearW ((c.nd i).heard v.h.toNat) v), []⟩) hs.ng
    exact keeps_did (a := hearN i (c.nd i) v) (keeps_step (n := (c.nd i).setSheet v.h.toNat (hearW ((c.nd i).heard v.h.toNat) v)) hs st) k
  · exact Keeps.refl _
theorem keeps_do {c : Cw} (G : CG c) (a : Ac) (k : Nat) : Keeps (c.nd k) ((doC c a).1.nd k) := by
  unfold doC
  split
  · exact Keeps.refl _
  · rename_i h6
    have G1 := G.more h6
    split
    · unfold subC
      split
      · rename_i hi
        have hi' := win_iff.1 hi
        split
        · rename_i hs
          have h4 : a.node.toNat < 4 := by omega
          have hw := G1.nd a.node.toNat h4
          have hy : win a.value 1 9 = true := by
            cases hy : win a.value 1 9
            · unfold subCode at hs; rw [hy] at hs; simp at hs
            · rfl
          have hl : (c.more.nd a.node.toNat).queue.length < 6 := by
            unfold subCode at hs
            rw [if_pos hy] at hs
            by_cases hl : (c.more.nd a.node.toNat).queue.length = 6
            · rw [if_pos hl] at hs; cases hs
            · have := hw.good.qlen; omega
          exact keeps_did (c := c.more) (keeps_step hw.good (submit_step (who := a.node.toNat) hw hy hl).1) k
        · exact Keeps.refl _
      · exact Keeps.refl _
    · split
      · unfold deliverC
        split
        · rename_i x hx
          split
          · exact keeps_hear G1 (G1.dest x (List.mem_of_getElem? hx)) x.2 k
          · exact Keeps.refl _
        · exact Keeps.refl _
      · split
        · unfold dropC
          split <;> exact Keeps.refl _
        · split
          · unfold timeC
            split
            · rename_i hi
              have hi' := win_iff.1 hi
              have h4 : a.node.toNat < 4 := by omega
              have hw := G1.nd a.node.toNat h4
              exact keeps_did (c := c.more) (keeps_step hw.good (time_step (who := a.node.toNat) hw).1) k
            · exact Keeps.refl _
          · split
            · unfold lieC
              split
              · split
                · split
                  · rename_i hi
                    have hi' := win_iff.1 hi
                    exact keeps_hear G1 (by omega) a.word k
                  · exact Keeps.refl _
                · exact Keeps.refl _
              · exact Keeps.refl _
            · split <;> exact Keeps.refl _

theorem nsettled_range {W : World} {b : Nat} {n : NI} {t : TypeId} (B : Blk W b n.cells t) : W.rangeAt b 277 (four n.settled).toList := by
  intro j u hu
  have hj : j < 4 := by
    by_cases hlt : j < 4
    · exact hlt
    · rw [List.getElem?_eq_none (by show (four n.settled).toList.length ≤ j; simp [four]; omega)] at hu; cases hu
  rw [B.cell, ncells_settled _ _ hj]
  rw [Array.getElem?_toList, four_at _ j hj] at hu
  exact hu

/-- What was settled, as the law keeps it: of the first i nodes that of now. -/
def wasV (c c' : Cw) (i : Nat) : Nat → Nat → Int := fun k h => if k < i then (c'.nd k).settled h else (c.nd k).settled h

set_option maxRecDepth 100000 in
set_option maxHeartbeats 8000000 in
theorem stays_look (b : Nat) (c c' : Cw) (x R : Array Value) (g : Nat) (q : Nat → Value) (nt : Value) (w0 W : World) (G : CG c') (hK : ∀ k, Keeps (c.nd k) (c'.nd k))
    (H : CwAt W g 93 c' q nt) (hb : w0.heap.size ≤ b) (hI : Blk W b (lcells fun i h => (c.nd i).settled h) 45) (h0 : Below w0.heap.size w0 W) :
    Calls Try.prog 29 #[.pointer (some ⟨g, 0, none⟩), .agg x, .agg R, .pointer (some ⟨b, 0, none⟩)] W
      (fun e W' => e = .returned (.bool true) ∧ CwAt W' g 93 c' q nt ∧ Blk W' b (lcells fun i h => (c'.nd i).settled h) 45 ∧ W.heap.size ≤ W'.heap.size ∧ Below w0.heap.size w0 W') := by
  have hql : ∀ i, i < 4 → (c'.nd i).queue.length ≤ 6 := fun i hi => (G.nd i hi).good.qlen
  have hz := run_zeroN
  have hi4 : ∀ f : Nat → Int, (Try.prog.info? 26).map (·.size) = some (four f).size := fun f => by show _ = some 4; kernel_rfl
  have HG : Hid (CG c') := G
  have HK : Hid (∀ k, Keeps (c.nd k) (c'.nd k)) := hK
  have HE : Hid ((lcells fun i h => (c.nd i).settled h) = lcells (wasV c c' 0) ∧ lcells (wasV c c' 4) = lcells fun i h => (c'.nd i).settled h) := ⟨rfl, lcells_congr fun i k hi _ => by unfold wasV; rw [if_pos hi]⟩
  rw [HE.out.1] at hI
  have La : Below W.heap.size W ((W.alloc (.cells x 49)).alloc (.cells R 52)) := by go_grown
  have H1 := H.keep La
  have I1 := hI.below La
  have B1 := bel_trans h0 La
  have hs1 : W.heap.size ≤ ((W.alloc (.cells x 49)).alloc (.cells R 52)).heap.size := La.size
  clear H hI h0 La G hK
  go_enter Try.func29, Try.ntmps29
  go_upto_region 1 with fail
  generalize ((W.alloc (.cells x 49)).alloc (.cells R 52)) = w1 at H1 I1 B1 hs1 ⊢
  go_wp2
  go_loopw [12] (fun j V => ∃ i : Nat, i ≤ 4 ∧ j = .int .i64 (i : Int) ∧ CwAt V g 93 c' q nt ∧ Blk V b (lcells (wasV c c' i)) 45 ∧ Below w0.heap.size w0 V ∧ W.heap.size ≤ V.heap.size) (fun j _ => 4 - (intOf j).toNat)
  case atStart => exact ⟨0, by omega, rfl, H1, I1, B1, hs1⟩
  case round =>
    clear H1 I1 B1 hs1
    obtain ⟨i, hi, rfl, H2, I2, B2, hs2⟩ := hrel
    by_cases hi4' : i < 4
    · have hiI : (i : Int) < 4 := by omega
      have hn := node_any H2 i hi4' (hql i hi4')
      have hqi := hql i hi4'
      have HEn : Hid (lcells (fun k h => if k = i then (c'.nd i).settled h else wasV c c' i k h) = lcells (wasV c c' (i + 1)) ∧ (∀ h, h < 4 → wasV c c' i i h ≠ 0 → (c'.nd i).settled h = wasV c c' i i h) ∧ (∀ h, h < 4 → (c'.nd i).settled h ≠ 0 → 0 < h → (c'.nd i).settled (h - 1) ≠ 0) ∧ ∀ q, goodN ((c'.nd i).ni q) (c'.nd i).queue = true) := by
        refine ⟨lcells_congr fun k h _ _ => ?_, fun h hh => ?_, fun h hh hne h0 => ?_, fun q => goodN_of (HG.out.nd i hi4').good q⟩
        · unfold wasV
          by_cases e : k = i
          · subst e; rw [if_pos rfl, if_pos (by omega)]
          · rw [if_neg e]
            by_cases e2 : k < i
            · rw [if_pos e2, if_pos (by omega)]
            · rw [if_neg e2, if_neg (by omega)]
        · have e : wasV c c' i i h = (c.nd i).settled h := by unfold wasV; rw [if_neg (by omega)]
          rw [e]; exact HK.out i h hh
        · have GG := (HG.out.nd i hi4').good
          by_cases hlt : h < (c'.nd i).height
          · have := (GG.low (h - 1) (by omega)).1; omega
          · exact absurd (GG.high h (by omega) hh) hne
      rename World => w2
      go_upto_region 5 with (first
        | (go_at_call 23; refine hn.mono ?_; clear hn; rintro e w3 ⟨q3, rfl, hown3, L3⟩; have hi5 := infoN ((c'.nd i).ni q3); have Z3 : Blk (w3.alloc (.cells zN.cells 34)) w3.heap.size zN.cells 34 := Blk.new w3 _ _; have La : Below w3.heap.size w3 (w3.alloc (.cells zN.cells 34)) := (by go_grown))
        | (refine wpList_store_blk rfl 34 _ _ rfl w3.heap.size zN.cells ((c'.nd i).ni q3).cells 34 rfl rfl Z3 (by rw [ncells_size, ncells_size]) hi5 (one_cellN _ (own_one hown3)) ?_; rintro w4 N4 K4; have L4 := K4.bel _ _ (Nat.le_refl _) La; have q4 := own_ints (own_below hown3 L4); clear Z3 La K4))
      have H4 := (H2.keep L3).keep L4
      have I4 := (I2.below L3).below L4
      have B4 := bel_trans (bel_trans B2 L3) L4
      have hs4 : W.heap.size ≤ w4.heap.size := by have := L3.size; have := L4.size; omega
      clear H2 I2 B2 hs2 L3 L4 hown3
      have hgd := ngood_any ((c'.nd i).ni q3) (c'.nd i).queue w4 q4 (by omega)
      rw [HEn.out.2.2.2 q3] at hgd
      have HS : Hid (∀ h, ((c'.nd i).ni q3).settled h = (c'.nd i).settled h) := fun _ => rfl
      go_upto_region 7 with (first
        | (refine wpList_load_part (by rfl) 34 _ rfl w3.heap.size 0 rfl ((c'.nd i).ni q3).cells _ N4.range Try.underlying34 rfl hi5 ?_)
        | (go_at_call 30; refine hgd.mono ?_; clear hgd; rintro e w5 ⟨rfl, L5⟩))
      have H5 := H4.keep L5
      have I5 := I4.below L5
      have B5 := bel_trans B4 L5
      have N5 := N4.below L5
      have hs5 : W.heap.size ≤ w5.heap.size := by have := L5.size; omega
      have hlr := lrow I5 i hi4'
      clear H4 I4 B4 N4 L5 hs4 q4
      generalize w3.heap.size = p at N5 ⊢
      obtain ⟨m, hm⟩ : ∃ m : NI, (c'.nd i).ni q3 = m := ⟨_, rfl⟩
      rw [hm] at N5 HS hi5
      have HM : Hid ((c'.nd i).ni q3 = m) := hm
      clear hm
      obtain ⟨was, hwas⟩ : ∃ was : Nat → Int, wasV c c' i i = was := ⟨_, rfl⟩
      have hix := fun k hk => index_four was k hk
      rw [hwas] at hlr
      have hkk := HEn.out
      rw [hwas] at hkk
      clear hwas HEn
      have HEn : Hid _ := hkk
      clear hkk
      go_wp2_with (first
        | (refine wpList_load_part (by rfl) 26 _ rfl b (i * 4) (by first | rfl | simp) (four was) _ hlr Try.underlying26 rfl (hi4 _) ?_))
      go_loopw [24] (fun j V => ∃ h : Nat, h ≤ 4 ∧ j = .int .i64 (h : Int) ∧ CwAt V g 93 c' q nt ∧ Blk V b (lcells (wasV c c' i)) 45 ∧ Blk V p m.cells 34 ∧ Below w0.heap.size w0 V ∧ W.heap.size ≤ V.heap.size) (fun j _ => 4 - (intOf j).toNat)
      case atStart => exact ⟨0, by omega, rfl, H5, I5, N5, B5, hs5⟩
      case round =>
        clear H5 I5 N5 B5 hs5 hlr
        obtain ⟨h, hh, hj, H6, I6, N6, B6, hs6⟩ := hrel
        have hrel2 := And.intro H6 (And.intro I6 (And.intro N6 (And.intro B6 hs6)))
        have HR2 : Hid _ := hrel2
        clear hrel2
        have h5 : h = 0 ∨ h = 1 ∨ h = 2 ∨ h = 3 ∨ h = 4 := by omega
        rcases h5 with rfl | rfl | rfl | rfl | rfl
        · replace hj := hj.trans (show Value.int .i64 ((0 : Nat) : Int) = .int .i64 0 from rfl)
          subst hj
          clear H6 I6 B6 hs6
          have hk1 := HEn.out.2.1 0 (by omega)
          have hk2 := HEn.out.2.2.1 0 (by omega)
          rw [← HS.out 0] at hk1 hk2
          have hix0 : ∀ V, Sem.run Try.prog (Instr.index 26 (.agg (four was)) (.int .i64 0)) V = .ok (.int .i64 (was 0)) V := fun V => hix 0 (by omega) V
          have e0 := N6.cell 277
          rw [show m.cells[277]? = some (.int .i64 (m.settled 0)) from ncells_settled m 0 (by omega)] at e0
          generalize m.settled 0 = u at e0 hk1 hk2
          generalize was 0 = v at hix0 hk1
          clear hix N6
          by_cases hv : v = 0
          · have hv1 : (v != 0) = false := by simpa using hv
            clear hv
            by_cases hu : u = 0
            · have hu1 : (u != 0) = false := by simpa using hu
              clear hk1 hk2 hu
              go_wp2
              go_roundw
              case rel => exact ⟨1, by omega, by go_num, HR2.out⟩
              case measure => simp [intOf]
            · have hu1 : (u != 0) = true := by simpa using hu
              clear hk1 hk2 hu
              go_wp2
              go_roundw
              case rel => exact ⟨1, by omega, by go_num, HR2.out⟩
              case measure => simp [intOf]
          · have hv1 : (v != 0) = true := by simpa using hv
            have huv : (u != v) = false := by simpa using hk1 hv
            clear hv
            by_cases hu : u = 0
            · have hu1 : (u != 0) = false := by simpa using hu
              clear hk1 hk2 hu
              go_wp2
              go_roundw
              case rel => exact ⟨1, by omega, by go_num, HR2.out⟩
              case measure => simp [intOf]
            · have hu1 : (u != 0) = true := by simpa using hu
              clear hk1 hk2 hu
              go_wp2
              go_roundw
              case rel => exact ⟨1, by omega, by go_num, HR2.out⟩
              case measure => simp [intOf]
        · replace hj := hj.trans (show Value.int .i64 ((1 : Nat) : Int) = .int .i64 1 from rfl)
          subst hj
          clear H6 I6 B6 hs6
          have hk1 := HEn.out.2.1 1 (by omega)
          have hk2 := HEn.out.2.2.1 1 (by omega)
          rw [← HS.out 1] at hk1 hk2
          have hix1 : ∀ V, Sem.run Try.prog (Instr.index 26 (.agg (four was)) (.int .i64 1)) V = .ok (.int .i64 (was 1)) V := fun V => hix 1 (by omega) V
          have e1 := N6.cell 278
          rw [show m.cells[278]? = some (.int .i64 (m.settled 1)) from ncells_settled m 1 (by omega)] at e1
          have e0 := N6.cell 277
          rw [show m.cells[277]? = some (.int .i64 (m.settled 0)) from ncells_settled m 0 (by omega)] at e0
          rw [show (c'.nd i).settled (1 - 1) = m.settled 0 from (HS.out 0).symm] at hk2
          generalize m.settled 0 = p at e0 hk2
          generalize m.settled 1 = u at e1 hk1 hk2
          generalize was 1 = v at hix1 hk1
          clear hix N6
          by_cases hv : v = 0
          · have hv1 : (v != 0) = false := by simpa using hv
            clear hv
            by_cases hu : u = 0
            · have hu1 : (u != 0) = false := by simpa using hu
              clear hk1 hk2 hu
              go_wp2
              go_roundw
              case rel => exact ⟨2, by omega, by go_num, HR2.out⟩
              case measure => simp [intOf]
            · have hu1 : (u != 0) = true := by simpa using hu
              have hp1 : (p == 0) = false := by simpa using hk2 hu (by omega)
              clear hk1 hk2 hu
              go_wp2
              go_roundw
              case rel => exact ⟨2, by omega, by go_num, HR2.out⟩
              case measure => simp [intOf]
          · have hv1 : (v != 0) = true := by simpa using hv
            have huv : (u != v) = false := by simpa using hk1 hv
            clear hv
            by_cases hu : u = 0
            · have hu1 : (u != 0) = false := by simpa using hu
              clear hk1 hk2 hu
              go_wp2
              go_roundw
              case rel => exact ⟨2, by omega, by go_num, HR2.out⟩
              case measure => simp [intOf]
            · have hu1 : (u != 0) = true := by simpa using hu
              have hp1 : (p == 0) = false := by simpa using hk2 hu (by omega)
              clear hk1 hk2 hu
              go_wp2
              go_roundw
              case rel => exact ⟨2, by omega, by go_num, HR2.out⟩
              case measure => simp [intOf]
        · replace hj := hj.trans (show Value.int .i64 ((2 : Nat) : Int) = .int .i64 2 from rfl)
          subst hj
          clear H6 I6 B6 hs6
          have hk1 := HEn.out.2.1 2 (by omega)
          have hk2 := HEn.out.2.2.1 2 (by omega)
          rw [← HS.out 2] at hk1 hk2
          have hix2 : ∀ V, Sem.run Try.prog (Instr.index 26 (.agg (four was)) (.int .i64 2)) V = .ok (.int .i64 (was 2)) V := fun V => hix 2 (by omega) V
          have e2 := N6.cell 279
          rw [show m.cells[279]? = some (.int .i64 (m.settled 2)) from ncells_settled m 2 (by omega)] at e2
          have e1 := N6.cell 278
          rw [show m.cells[278]? = some (.int .i64 (m.settled 1)) from ncells_settled m 1 (by omega)] at e1
          rw [show (c'.nd i).settled (2 - 1) = m.settled 1 from (HS.out 1).symm] at hk2
          generalize m.settled 1 = p at e1 hk2
          generalize m.settled 2 = u at e2 hk1 hk2
          generalize was 2 = v at hix2 hk1
          clear hix N6
          by_cases hv : v = 0
          · have hv1 : (v != 0) = false := by simpa using hv
            clear hv
            by_cases hu : u = 0
            · have hu1 : (u != 0) = false := by simpa using hu
              clear hk1 hk2 hu
              go_wp2
              go_roundw
              case rel => exact ⟨3, by omega, by go_num, HR2.out⟩
              case measure => simp [intOf]
            · have hu1 : (u != 0) = true := by simpa using hu
              have hp1 : (p == 0) = false := by simpa using hk2 hu (by omega)
              clear hk1 hk2 hu
              go_wp2
              go_roundw
              case rel => exact ⟨3, by omega, by go_num, HR2.out⟩
              case measure => simp [intOf]
          · have hv1 : (v != 0) = true := by simpa using hv
            have huv : (u != v) = false := by simpa using hk1 hv
            clear hv
            by_cases hu : u = 0
            · have hu1 : (u != 0) = false := by simpa using hu
              clear hk1 hk2 hu
              go_wp2
              go_roundw
              case rel => exact ⟨3, by omega, by go_num, HR2.out⟩
              case measure => simp [intOf]
            · have hu1 : (u != 0) = true := by simpa using hu
              have hp1 : (p == 0) = false := by simpa using hk2 hu (by omega)
              clear hk1 hk2 hu
              go_wp2
              go_roundw
              case rel => exact ⟨3, by omega, by go_num, HR2.out⟩
              case measure => simp [intOf]
        · replace hj := hj.trans (show Value.int .i64 ((3 : Nat) : Int) = .int .i64 3 from rfl)
          subst hj
          clear H6 I6 B6 hs6
          have hk1 := HEn.out.2.1 3 (by omega)
          have hk2 := HEn.out.2.2.1 3 (by omega)
          rw [← HS.out 3] at hk1 hk2
          have hix3 : ∀ V, Sem.run Try.prog (Instr.index 26 (.agg (four was)) (.int .i64 3)) V = .ok (.int .i64 (was 3)) V := fun V => hix 3 (by omega) V
          have e3 := N6.cell 280
          rw [show m.cells[280]? = some (.int .i64 (m.settled 3)) from ncells_settled m 3 (by omega)] at e3
          have e2 := N6.cell 279
          rw [show m.cells[279]? = some (.int .i64 (m.settled 2)) from ncells_settled m 2 (by omega)] at e2
          rw [show (c'.nd i).settled (3 - 1) = m.settled 2 from (HS.out 2).symm] at hk2
          generalize m.settled 2 = p at e2 hk2
          generalize m.settled 3 = u at e3 hk1 hk2
          generalize was 3 = v at hix3 hk1
          clear hix N6
          by_cases hv : v = 0
          · have hv1 : (v != 0) = false := by simpa using hv
            clear hv
            by_cases hu : u = 0
            · have hu1 : (u != 0) = false := by simpa using hu
              clear hk1 hk2 hu
              go_wp2
              go_roundw
              case rel => exact ⟨4, by omega, by go_num, HR2.out⟩
              case measure => simp [intOf]
            · have hu1 : (u != 0) = true := by simpa using hu
              have hp1 : (p == 0) = false := by simpa using hk2 hu (by omega)
              clear hk1 hk2 hu
              go_wp2
              go_roundw
              case rel => exact ⟨4, by omega, by go_num, HR2.out⟩
              case measure => simp [intOf]
          · have hv1 : (v != 0) = true := by simpa using hv
            have huv : (u != v) = false := by simpa using hk1 hv
            clear hv
            by_cases hu : u = 0
            · have hu1 : (u != 0) = false := by simpa using hu
              clear hk1 hk2 hu
              go_wp2
              go_roundw
              case rel => exact ⟨4, by omega, by go_num, HR2.out⟩
              case measure => simp [intOf]
            · have hu1 : (u != 0) = true := by simpa using hu
              have hp1 : (p == 0) = false := by simpa using hk2 hu (by omega)
              clear hk1 hk2 hu
              go_wp2
              go_roundw
              case rel => exact ⟨4, by omega, by go_num, HR2.out⟩
              case measure => simp [intOf]
        · replace hj := hj.trans (show Value.int .i64 ((4 : Nat) : Int) = .int .i64 4 from rfl)
          subst hj
          have hsr := nsettled_range N6
          go_wp2_with (first
            | (refine wpList_load_part (by rfl) 26 _ rfl p 277 (by first | rfl | simp) (four m.settled) _ hsr Try.underlying26 rfl (hi4 _) ?_)
            | (refine wpList_store_row rfl 26 _ _ rfl b i (wasV c c' i) m.settled 45 (by first | rfl | simp) rfl hi4' I6 (hi4 _) ?_; rintro w7 I7 K7; have H7 := H6.kept K7 I6 (by decide) (by decide) (by decide); have B7 := K7.bel _ _ hb B6; have hs7 : W.heap.size ≤ w7.heap.size := (by have := K7.size; omega)))
          go_roundw
          case rel =>
            refine ⟨i + 1, by omega, by go_num, H7, ?_, B7, hs7⟩
            rw [← HEn.out.1]
            have e : (fun h => m.settled h) = (c'.nd i).settled := funext fun h => HS.out h
            rw [show m.settled = (c'.nd i).settled from e] at I7
            exact I7
          case measure => simp [intOf]; omega
    · have hi5 : Hid (i = 4) := show i = 4 by omega
      go_wp2
      go_ret
      refine ⟨rfl, H2, ?_, hs2, B2⟩
      rw [← HE.out.2, ← hi5.out]; exact I2

set_option maxRecDepth 100000 in
set_option maxHeartbeats 4000000 in
theorem topStays_any (n : Int) (l : List Ac) (s : Value) (w : World) (hs : ActsAt w s l) (hlen : l.length < 4611686018427387904) :
    Calls Try.prog 8 #[.int .i64 n, s] w fun e w' => e = .returned (.bool true) ∧ Below w.heap.size w w' := by
  have hl := liesV_bd n
  have hz : (lcells fun i h => ((playC (liesV n) l 0).nd i).settled h) = #[.int .i64 0, .int .i64 0, .int .i64 0, .int .i64 0, .int .i64 0, .int .i64 0, .int .i64 0, .int .i64 0, .int .i64 0, .int .i64 0, .int .i64 0, .int .i64 0, .int .i64 0, .int .i64 0, .int .i64 0, .int .i64 0] := by kernel_rfl
  have LK : Looks 29 #[.pointer (some ⟨w.heap.size, 0, none⟩)] (liesV n) l w (fun k W => Blk W w.heap.size (lcells fun i h => ((playC (liesV n) l k).nd i).settled h) 45) := by
    refine ⟨fun _ _ => by show _ = _; kernel_rfl, fun k W W' hI hb => hI.below hb, fun k g c q nt W W' hI hc ht => ht.blk hc.blk hc.net hI (by decide) (by decide), fun k g x q nt W hx hW _ _ hI hB => ?_⟩
    have hp := playC_succ (liar := liesV n) hx
    have hkeep := keeps_do (playC_good hl l k) x
    rw [← hp] at hkeep
    refine (stays_look w.heap.size (playC (liesV n) l k) (playC (liesV n) l (k + 1)) (acArr x) (doC (playC (liesV n) l k) x).2 g q nt w W (playC_good hl l (k + 1)) hkeep hW (Nat.le_refl _) hI hB).mono ?_
    rintro e W' ⟨rfl, h1, h2, h3, h4⟩
    exact ⟨rfl, h1, h2, h3, h4⟩
  have hplay := fun W (hW : Below w.heap.size w W) (hI) => play_gen 29 #[.pointer (some ⟨w.heap.size, 0, none⟩)] (liesV n) hl l s w W _ (fun W' hW' => hs.keep hW') hlen hW hI LK
  generalize playC (liesV n) l (most l) = c at hplay
  have I0 : Blk (w.alloc (.cells #[.int .i64 0, .int .i64 0, .int .i64 0, .int .i64 0, .int .i64 0, .int .i64 0, .int .i64 0, .int .i64 0, .int .i64 0, .int .i64 0, .int .i64 0, .int .i64 0, .int .i64 0, .int .i64 0, .int .i64 0, .int .i64 0] 45)) w.heap.size (lcells fun i h => ((playC (liesV n) l 0).nd i).settled h) 45 := by rw [hz]; exact Blk.new w _ _
  have L0 : Below w.heap.size w (w.alloc (.cells #[.int .i64 0, .int .i64 0, .int .i64 0, .int .i64 0, .int .i64 0, .int .i64 0, .int .i64 0, .int .i64 0, .int .i64 0, .int .i64 0, .int .i64 0, .int .i64 0, .int .i64 0, .int .i64 0, .int .i64 0, .int .i64 0] 45)) := by go_grown
  have HP : Hid _ := hplay
  clear hplay LK hz
  obtain ⟨sa, sc, hsv⟩ := hs.len
  subst hsv
  clear hs
  go_enter Try.func8, Try.ntmps8
  go_upto_region 2 with fail
  generalize (w.alloc (.cells #[.int .i64 0, .int .i64 0, .int .i64 0, .int .i64 0, .int .i64 0, .int .i64 0, .int .i64 0, .int .i64 0, .int .i64 0, .int .i64 0, .int .i64 0, .int .i64 0, .int .i64 0, .int .i64 0, .int .i64 0, .int .i64 0] 45)) = w0 at I0 L0 ⊢
  go_wp2_with (first
    | (go_at_call 26; refine (lies_any n _).mono ?_; rintro e w' ⟨rfl, hw'⟩; obtain rfl := hw'.symm)
    | (go_at_call 27; refine (HP.out w0 L0 I0).mono ?_; rintro e w1 ⟨g, q, nt, rfl, hg, H1, hnt, _, hsz1, hB1⟩))
  go_ret
  exact ⟨rfl, hB1⟩
end Go.Proofs.Ytmmgaonlmpajbab
