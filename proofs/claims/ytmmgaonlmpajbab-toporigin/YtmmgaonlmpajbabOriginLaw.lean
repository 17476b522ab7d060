/-
  The statement TopOrigin.
-/
import Derived.Test.YtmmgaonlmpajbabOriginP
import Derived.Test.YtmmgaonlmpajbabStaysLaw
namespace Go.Proofs.Ytmmgaonlmpajbab
open Go.RowKit

/-- Ten marks. -/
def tens (m : Nat → Bool) : Array Value := ((List.range 10).map fun k => Value.bool (m k)).toArray
theorem tens_size (m : Nat → Bool) : (tens m).size = 10 := by simp [tens]
theorem tens_at (m : Nat → Bool) (k : Nat) (hk : k < 10) : (tens m)[k]? = some (.bool (m k)) := by simp [tens, hk]
theorem tens_set (m : Nat → Bool) (k : Nat) : (tens m).setIfInBounds k (.bool true) = tens (fun j => if j = k then true else m j) := by
  apply Array.ext_getElem?
  intro j
  by_cases hj : j < 10
  · rw [tens_at _ _ hj, Array.getElem?_setIfInBounds]
    by_cases e : k = j
    · subst e; rw [if_pos rfl, if_pos rfl, if_pos (by rw [tens_size]; exact hj)]
    · rw [if_neg e, tens_at _ _ hj, if_neg (fun h => e h.symm)]
  · rw [Array.getElem?_eq_none (by rw [Array.size_setIfInBounds, tens_size]; omega), Array.getElem?_eq_none (by rw [tens_size]; omega)]

theorem hid_of {p : Prop} (h : p) : Hid p := h
/-- What the look at an act leaves marked. -/
def Marked (m m1 : Nat → Bool) (code : Int) (x : Ac) : Prop := (∀ k, m k = true → m1 k = true) ∧ ∀ v, code = 0 → ((x.kind = 1 ∧ v = x.value) ∨ (x.kind = 5 ∧ x.word.k = 1 ∧ v = x.word.v)) → m1 v.toNat = true

set_option maxRecDepth 100000 in
set_option maxHeartbeats 8000000 in
theorem origin_look (b bl : Nat) (liar : Int) (c' : Cw) (x : Ac) (code n : Int) (f : Nat → Int) (m : Nat → Bool) (g : Nat) (q : Nat → Value) (nt : Value) (w0 W : World) (G : CG c')
    (hbd : code = 0 → ∀ v, ((x.kind = 1 ∧ v = x.value) ∨ (x.kind = 5 ∧ x.word.k = 1 ∧ v = x.word.v)) → 0 ≤ v ∧ v ≤ 9)
    (hM : ∀ m1, Marked m m1 code x → ∀ i, i < 4 → ∀ h, h < 4 → (c'.nd i).settled h ≠ 0 → ∃ k : Nat, k < 10 ∧ (c'.nd i).settled h = (k : Int) ∧ m1 k = true)
    (H : CwAt W g 93 c' q nt) (hb : w0.heap.size ≤ b) (hne : bl ≠ b) (hI : Blk W b (tens m) 68) (hL : Blk W bl #[.int .i64 liar] 3) (h0 : Below w0.heap.size w0 W) :
    Calls Try.prog 31 #[.pointer (some ⟨g, 0, none⟩), .agg (acArr x), .agg (rcells code n f), .pointer (some ⟨b, 0, none⟩), .pointer (some ⟨bl, 0, none⟩)] W
      (fun e W' => e = .returned (.bool true) ∧ CwAt W' g 93 c' q nt ∧ (∃ m1, Blk W' b (tens m1) 68 ∧ Marked m m1 code x) ∧ Blk W' bl #[.int .i64 liar] 3 ∧ W.heap.size ≤ W'.heap.size ∧ Below w0.heap.size w0 W') := by
  have hql : ∀ i, i < 4 → (c'.nd i).queue.length ≤ 6 := fun i hi => (G.nd i hi).good.qlen
  have La : Below W.heap.size W ((W.alloc (.cells (acArr x) 49)).alloc (.cells (rcells code n f) 52)) := by go_grown
  have H1 := H.keep La
  have I1 := hI.below La
  have L1 := hL.below La
  have B1 := bel_trans h0 La
  have hs1 : W.heap.size ≤ ((W.alloc (.cells (acArr x) 49)).alloc (.cells (rcells code n f) 52)).heap.size := La.size
  have BA : Blk ((W.alloc (.cells (acArr x) 49)).alloc (.cells (rcells code n f) 52)) W.heap.size (acArr x) 49 := (Blk.new W _ _).alloc _
  have BR : Blk ((W.alloc (.cells (acArr x) 49)).alloc (.cells (rcells code n f) 52)) (W.heap.size + 1) (rcells code n f) 52 := Blk.new1 W _ _ _
  have HB : Hid (code = 0 → ∀ v, ((x.kind = 1 ∧ v = x.value) ∨ (x.kind = 5 ∧ x.word.k = 1 ∧ v = x.word.v)) → 0 ≤ v ∧ v ≤ 9) := hbd
  have HMM : Hid (∀ m1, Marked m m1 code x → ∀ i, i < 4 → ∀ h, h < 4 → (c'.nd i).settled h ≠ 0 → ∃ k : Nat, k < 10 ∧ (c'.nd i).settled h = (k : Int) ∧ m1 k = true) := hM
  have hbW : b < W.heap.size := hI.lt
  clear H hI hL h0 La G hbd hM
  go_enter Try.func31, Try.ntmps31
  go_upto_region 1 with fail
  generalize ((W.alloc (.cells (acArr x) 49)).alloc (.cells (rcells code n f) 52)) = w1 at H1 I1 L1 B1 hs1 BA BR ⊢
  have eR : w1.cell? ⟨W.heap.size + 1, 0, none⟩ = some (.int .i64 code) := BR.cell 0
  have eK : w1.cell? ⟨W.heap.size, 0, none⟩ = some (.int .i64 x.kind) := BA.cell 0
  have eW : w1.cell? ⟨W.heap.size, 4, none⟩ = some (.int .i64 x.word.k) := BA.cell 4
  have eV : w1.cell? ⟨W.heap.size, 3, none⟩ = some (.int .i64 x.value) := BA.cell 3
  have eU : w1.cell? ⟨W.heap.size, 8, none⟩ = some (.int .i64 x.word.v) := BA.cell 8
  have way : (code ≠ 0) ∨ (code = 0 ∧ x.kind = 1) ∨ (code = 0 ∧ x.kind ≠ 1 ∧ x.kind ≠ 5) ∨ (code = 0 ∧ x.kind = 5 ∧ x.word.k ≠ 1) ∨ (code = 0 ∧ x.kind = 5 ∧ x.word.k = 1) := by omega
  rcases way with c1 | ⟨c1, c2⟩ | ⟨c1, c2, c3⟩ | ⟨c1, c2, c3⟩ | ⟨c1, c2, c3⟩
  · have d1 : (code == 0) = false := by simpa using c1
    have HM1 : Hid (Marked m m code x) := show Marked m m code x from ⟨fun _ h => h, fun _ h => absurd h c1⟩
    have HM := hid_of (HMM.out m HM1.out)
    obtain ⟨m1, hm1⟩ : ∃ m1, m1 = m := ⟨m, rfl⟩
    rw [← hm1] at I1 HM
    have HM1 : Hid (Marked m m1 code x) := show Marked m m1 code x by rw [hm1]; exact HM1.out
    clear c1 hm1 HMM HB
    go_upto_region 5 with fail
    clear eR eK eW eV eU BA BR
    go_wp2
    go_loopw [41] (fun j V => ∃ i : Nat, i ≤ 4 ∧ j = .int .i64 (i : Int) ∧ CwAt V g 93 c' q nt ∧ Blk V b (tens m1) 68 ∧ Blk V bl #[.int .i64 liar] 3 ∧ Below w0.heap.size w0 V ∧ W.heap.size ≤ V.heap.size) (fun j _ => 4 - (intOf j).toNat)
    case atStart => exact ⟨0, by omega, rfl, H1, I1, L1, B1, hs1⟩
    case round =>
      clear H1 I1 L1 B1 hs1
      obtain ⟨i, hi, rfl, H2, I2, L2, B2, hs2⟩ := hrel
      by_cases hi4' : i < 4
      · have hiI : (i : Int) < 4 := by omega
        have hn := node_any H2 i hi4' (hql i hi4')
        have HMi : Hid (∀ h, h < 4 → (c'.nd i).settled h ≠ 0 → ∃ k : Nat, k < 10 ∧ (c'.nd i).settled h = (k : Int) ∧ m1 k = true) := HM.out i hi4'
        rename World => w2
        go_wp2_with (first
          | (go_at_call 23; refine hn.mono ?_; clear hn; rintro e w3 ⟨q3, rfl, hown3, L3⟩; have hfs := field_settled ((c'.nd i).ni q3)))
        have H3 := H2.keep L3
        have I3 := I2.below L3
        have L3' := L2.below L3
        have B3 := bel_trans B2 L3
        have hs3 : W.heap.size ≤ w3.heap.size := by have := L3.size; omega
        clear H2 I2 L2 B2 hs2 L3 hown3 hfs
        obtain ⟨st, hst⟩ : ∃ st : Nat → Int, (c'.nd i).settled = st := ⟨_, rfl⟩
        rw [show ((c'.nd i).ni q3).settled = st from hst]
        rw [hst] at HMi
        have hix := fun k hk => index_four st k hk
        go_loopw [48] (fun j V => ∃ h : Nat, h ≤ 4 ∧ j = .int .i64 (h : Int) ∧ CwAt V g 93 c' q nt ∧ Blk V b (tens m1) 68 ∧ Blk V bl #[.int .i64 liar] 3 ∧ Below w0.heap.size w0 V ∧ W.heap.size ≤ V.heap.size) (fun j _ => 4 - (intOf j).toNat)
        case atStart => exact ⟨0, by omega, rfl, H3, I3, L3', B3, hs3⟩
        case round =>
          clear H3 I3 L3' B3 hs3
          obtain ⟨h, hh, rfl, H4, I4, L4, B4, hs4⟩ := hrel
          by_cases hh4 : h < 4
          · have hhI : (h : Int) < 4 := by omega
            have hixh := hix h hh4
            have HMh : Hid (st h ≠ 0 → ∃ k : Nat, k < 10 ∧ st h = (k : Int) ∧ m1 k = true) := HMi.out h hh4
            clear hix
            generalize st h = v at hixh HMh
            have eL0 : wr.cell? ⟨bl, 0, none⟩ = some (.int .i64 liar) := L4.cell 0
            by_cases hv : v = 0
            · have hv1 : (v != 0) = false := by simpa using hv
              clear hv
              go_wp2
              go_roundw
              case rel => exact ⟨h + 1, by omega, by go_num, H4, I4, L4, B4, hs4⟩
              case measure => simp [intOf]; omega
            · have hv1 : (v != 0) = true := by simpa using hv
              obtain ⟨k, hk, rfl, hmk⟩ := HMh.out hv
              clear hv HMh
              have eM0 := (I4.cell k).trans ((tens_at m1 k hk).trans (show some (Value.bool (m1 k)) = some (Value.bool true) by rw [hmk]))
              by_cases hl : (i : Int) = liar
              · have hl1 : ((i : Int) != liar) = false := by simpa using hl
                clear hl
                go_wp2
                go_roundw
                case rel => exact ⟨h + 1, by omega, by go_num, H4, I4, L4, B4, hs4⟩
                case measure => simp [intOf]; omega
              · have hl1 : ((i : Int) != liar) = true := by simpa using hl
                clear hl
                go_wp2
                go_roundw
                case rel => exact ⟨h + 1, by omega, by go_num, H4, I4, L4, B4, hs4⟩
                case measure => simp [intOf]; omega
          · have hh5 : ¬ (h : Int) < 4 := by omega
            go_wp2
            go_roundw
            case rel => exact ⟨i + 1, by omega, by go_num, H4, I4, L4, B4, hs4⟩
            case measure => simp [intOf]; omega
      · have hi5 : ¬ (i : Int) < 4 := by omega
        go_wp2
        go_ret
        exact ⟨rfl, H2, ⟨m1, I2, HM1.out⟩, L2, hs2, B2⟩
  · have d1 : (code == 0) = true := by simpa using c1
    have d2 : (x.kind == 1) = true := by simpa using c2
    have d3 : (x.kind == 5) = false := by simp; omega
    obtain ⟨v0, v9⟩ := HB.out c1 x.value (Or.inl ⟨c2, rfl⟩)
    obtain ⟨k, hk⟩ : ∃ k : Nat, x.value = (k : Int) := ⟨x.value.toNat, by omega⟩
    have hk10 : k < 10 := by omega
    obtain ⟨m1, hm1⟩ : ∃ m1 : Nat → Bool, m1 = fun j => if j = k then true else m j := ⟨_, rfl⟩
    have HM1 : Hid (Marked m m1 code x) := show Marked m m1 code x from ⟨fun j h => by rw [hm1]; show (if j = k then true else m j) = true; split; rfl; exact h, fun v _ h => by
      rcases h with ⟨_, e⟩ | ⟨e, _⟩
      · rw [hm1, e, hk]; exact if_pos (by omega)
      · omega⟩
    have HM := hid_of (HMM.out m1 HM1.out)
    rw [hk] at eV
    have eM := (I1.cell k).trans (tens_at m k hk10)
    have fM := I1.free k
    have I1' := I1.setCell k (.bool true)
    rw [tens_set, ← hm1] at I1'
    have H1' := H1.kept (kept_setCell b k (.bool true) w1) I1 (by decide) (by decide) (by decide)
    have L1' := L1.setCell_other ⟨b, k, none⟩ (.bool true) hne
    have B1' := (kept_setCell b k (.bool true) w1).bel _ _ hb B1
    clear c1 c2 hm1 HMM HB v0 v9
    go_upto_region 3 with fail
    have hs1' : W.heap.size ≤ (w1.setCell ⟨b, k, none⟩ (.bool true)).heap.size := by rw [(kept_setCell b k (.bool true) w1).size]; exact hs1
    have BA' := BA.setCell_other ⟨b, k, none⟩ (.bool true) (by show W.heap.size ≠ b; omega)
    have BR' := BR.setCell_other ⟨b, k, none⟩ (.bool true) (by show W.heap.size + 1 ≠ b; omega)
    clear eR eK eW eV eU BA BR eM fM H1 I1 L1 B1 hs1
    have H1 := H1'
    have I1 := I1'
    have L1 := L1'
    have B1 := B1'
    have hs1 := hs1'
    clear H1' I1' L1' B1' hs1'
    generalize w1.setCell ⟨b, k, none⟩ (.bool true) = w1 at *
    have eR : w1.cell? ⟨W.heap.size + 1, 0, none⟩ = some (.int .i64 code) := BR'.cell 0
    have eK : w1.cell? ⟨W.heap.size, 0, none⟩ = some (.int .i64 x.kind) := BA'.cell 0
    clear BA' BR'
    go_upto_region 5 with fail
    clear eR eK
    go_wp2
    go_loopw [41] (fun j V => ∃ i : Nat, i ≤ 4 ∧ j = .int .i64 (i : Int) ∧ CwAt V g 93 c' q nt ∧ Blk V b (tens m1) 68 ∧ Blk V bl #[.int .i64 liar] 3 ∧ Below w0.heap.size w0 V ∧ W.heap.size ≤ V.heap.size) (fun j _ => 4 - (intOf j).toNat)
    case atStart => exact ⟨0, by omega, rfl, H1, I1, L1, B1, hs1⟩
    case round =>
      clear H1 I1 L1 B1 hs1
      obtain ⟨i, hi, rfl, H2, I2, L2, B2, hs2⟩ := hrel
      by_cases hi4' : i < 4
      · have hiI : (i : Int) < 4 := by omega
        have hn := node_any H2 i hi4' (hql i hi4')
        have HMi : Hid (∀ h, h < 4 → (c'.nd i).settled h ≠ 0 → ∃ k : Nat, k < 10 ∧ (c'.nd i).settled h = (k : Int) ∧ m1 k = true) := HM.out i hi4'
        rename World => w2
        go_wp2_with (first
          | (go_at_call 23; refine hn.mono ?_; clear hn; rintro e w3 ⟨q3, rfl, hown3, L3⟩; have hfs := field_settled ((c'.nd i).ni q3)))
        have H3 := H2.keep L3
        have I3 := I2.below L3
        have L3' := L2.below L3
        have B3 := bel_trans B2 L3
        have hs3 : W.heap.size ≤ w3.heap.size := by have := L3.size; omega
        clear H2 I2 L2 B2 hs2 L3 hown3 hfs
        obtain ⟨st, hst⟩ : ∃ st : Nat → Int, (c'.nd i).settled = st := ⟨_, rfl⟩
        rw [show ((c'.nd i).ni q3).settled = st from hst]
        rw [hst] at HMi
        have hix := fun k hk => index_four st k hk
        go_loopw [48] (fun j V => ∃ h : Nat, h ≤ 4 ∧ j = .int .i64 (h : Int) ∧ CwAt V g 93 c' q nt ∧ Blk V b (tens m1) 68 ∧ Blk V bl #[.int .i64 liar] 3 ∧ Below w0.heap.size w0 V ∧ W.heap.size ≤ V.heap.size) (fun j _ => 4 - (intOf j).toNat)
        case atStart => exact ⟨0, by omega, rfl, H3, I3, L3', B3, hs3⟩
        case round =>
          clear H3 I3 L3' B3 hs3
          obtain ⟨h, hh, rfl, H4, I4, L4, B4, hs4⟩ := hrel
          by_cases hh4 : h < 4
          · have hhI : (h : Int) < 4 := by omega
            have hixh := hix h hh4
            have HMh : Hid (st h ≠ 0 → ∃ k : Nat, k < 10 ∧ st h = (k : Int) ∧ m1 k = true) := HMi.out h hh4
            clear hix
            generalize st h = v at hixh HMh
            have eL0 : wr.cell? ⟨bl, 0, none⟩ = some (.int .i64 liar) := L4.cell 0
            by_cases hv : v = 0
            · have hv1 : (v != 0) = false := by simpa using hv
              clear hv
              go_wp2
              go_roundw
              case rel => exact ⟨h + 1, by omega, by go_num, H4, I4, L4, B4, hs4⟩
              case measure => simp [intOf]; omega
            · have hv1 : (v != 0) = true := by simpa using hv
              obtain ⟨k, hk, rfl, hmk⟩ := HMh.out hv
              clear hv HMh
              have eM0 := (I4.cell k).trans ((tens_at m1 k hk).trans (show some (Value.bool (m1 k)) = some (Value.bool true) by rw [hmk]))
              by_cases hl : (i : Int) = liar
              · have hl1 : ((i : Int) != liar) = false := by simpa using hl
                clear hl
                go_wp2
                go_roundw
                case rel => exact ⟨h + 1, by omega, by go_num, H4, I4, L4, B4, hs4⟩
                case measure => simp [intOf]; omega
              · have hl1 : ((i : Int) != liar) = true := by simpa using hl
                clear hl
                go_wp2
                go_roundw
                case rel => exact ⟨h + 1, by omega, by go_num, H4, I4, L4, B4, hs4⟩
                case measure => simp [intOf]; omega
          · have hh5 : ¬ (h : Int) < 4 := by omega
            go_wp2
            go_roundw
            case rel => exact ⟨i + 1, by omega, by go_num, H4, I4, L4, B4, hs4⟩
            case measure => simp [intOf]; omega
      · have hi5 : ¬ (i : Int) < 4 := by omega
        go_wp2
        go_ret
        exact ⟨rfl, H2, ⟨m1, I2, HM1.out⟩, L2, hs2, B2⟩
  · have d1 : (code == 0) = true := by simpa using c1
    have d2 : (x.kind == 1) = false := by simpa using c2
    have d3 : (x.kind == 5) = false := by simpa using c3
    have HM1 : Hid (Marked m m code x) := show Marked m m code x from ⟨fun _ h => h, fun v _ h => by rcases h with ⟨e, _⟩ | ⟨e, _⟩ <;> omega⟩
    have HM := hid_of (HMM.out m HM1.out)
    obtain ⟨m1, hm1⟩ : ∃ m1, m1 = m := ⟨m, rfl⟩
    rw [← hm1] at I1 HM
    have HM1 : Hid (Marked m m1 code x) := show Marked m m1 code x by rw [hm1]; exact HM1.out
    clear c1 c2 c3 hm1 HMM HB
    go_upto_region 5 with fail
    clear eR eK eW eV eU BA BR
    go_wp2
    go_loopw [41] (fun j V => ∃ i : Nat, i ≤ 4 ∧ j = .int .i64 (i : Int) ∧ CwAt V g 93 c' q nt ∧ Blk V b (tens m1) 68 ∧ Blk V bl #[.int .i64 liar] 3 ∧ Below w0.heap.size w0 V ∧ W.heap.size ≤ V.heap.size) (fun j _ => 4 - (intOf j).toNat)
    case atStart => exact ⟨0, by omega, rfl, H1, I1, L1, B1, hs1⟩
    case round =>
      clear H1 I1 L1 B1 hs1
      obtain ⟨i, hi, rfl, H2, I2, L2, B2, hs2⟩ := hrel
      by_cases hi4' : i < 4
      · have hiI : (i : Int) < 4 := by omega
        have hn := node_any H2 i hi4' (hql i hi4')
        have HMi : Hid (∀ h, h < 4 → (c'.nd i).settled h ≠ 0 → ∃ k : Nat, k < 10 ∧ (c'.nd i).settled h = (k : Int) ∧ m1 k = true) := HM.out i hi4'
        rename World => w2
        go_wp2_with (first
          | (go_at_call 23; refine hn.mono ?_; clear hn; rintro e w3 ⟨q3, rfl, hown3, L3⟩; have hfs := field_settled ((c'.nd i).ni q3)))
        have H3 := H2.keep L3
        have I3 := I2.below L3
        have L3' := L2.below L3
        have B3 := bel_trans B2 L3
        have hs3 : W.heap.size ≤ w3.heap.size := by have := L3.size; omega
        clear H2 I2 L2 B2 hs2 L3 hown3 hfs
        obtain ⟨st, hst⟩ : ∃ st : Nat → Int, (c'.nd i).settled = st := ⟨_, rfl⟩
        rw [show ((c'.nd i).ni q3).settled = st from hst]
        rw [hst] at HMi
        have hix := fun k hk => index_four st k hk
        go_loopw [48] (fun j V => ∃ h : Nat, h ≤ 4 ∧ j = .int .i64 (h : Int) ∧ CwAt V g 93 c' q nt ∧ Blk V b (tens m1) 68 ∧ Blk V bl #[.int .i64 liar] 3 ∧ Below w0.heap.size w0 V ∧ W.heap.size ≤ V.heap.size) (fun j _ => 4 - (intOf j).toNat)
        case atStart => exact ⟨0, by omega, rfl, H3, I3, L3', B3, hs3⟩
        case round =>
          clear H3 I3 L3' B3 hs3
          obtain ⟨h, hh, rfl, H4, I4, L4, B4, hs4⟩ := hrel
          by_cases hh4 : h < 4
          · have hhI : (h : Int) < 4 := by omega
            have hixh := hix h hh4
            have HMh : Hid (st h ≠ 0 → ∃ k : Nat, k < 10 ∧ st h = (k : Int) ∧ m1 k = true) := HMi.out h hh4
            clear hix
            generalize st h = v at hixh HMh
            have eL0 : wr.cell? ⟨bl, 0, none⟩ = some (.int .i64 liar) := L4.cell 0
            by_cases hv : v = 0
            · have hv1 : (v != 0) = false := by simpa using hv
              clear hv
              go_wp2
              go_roundw
              case rel => exact ⟨h + 1, by omega, by go_num, H4, I4, L4, B4, hs4⟩
              case measure => simp [intOf]; omega
            · have hv1 : (v != 0) = true := by simpa using hv
              obtain ⟨k, hk, rfl, hmk⟩ := HMh.out hv
              clear hv HMh
              have eM0 := (I4.cell k).trans ((tens_at m1 k hk).trans (show some (Value.bool (m1 k)) = some (Value.bool true) by rw [hmk]))
              by_cases hl : (i : Int) = liar
              · have hl1 : ((i : Int) != liar) = false := by simpa using hl
                clear hl
                go_wp2
                go_roundw
                case rel => exact ⟨h + 1, by omega, by go_num, H4, I4, L4, B4, hs4⟩
                case measure => simp [intOf]; omega
              · have hl1 : ((i : Int) != liar) = true := by simpa using hl
                clear hl
                go_wp2
                go_roundw
                case rel => exact ⟨h + 1, by omega, by go_num, H4, I4, L4, B4, hs4⟩
                case measure => simp [intOf]; omega
          · have hh5 : ¬ (h : Int) < 4 := by omega
            go_wp2
            go_roundw
            case rel => exact ⟨i + 1, by omega, by go_num, H4, I4, L4, B4, hs4⟩
            case measure => simp [intOf]; omega
      · have hi5 : ¬ (i : Int) < 4 := by omega
        go_wp2
        go_ret
        exact ⟨rfl, H2, ⟨m1, I2, HM1.out⟩, L2, hs2, B2⟩
  · have d1 : (code == 0) = true := by simpa using c1
    have d2 : (x.kind == 1) = false := by simp; omega
    have d3 : (x.kind == 5) = true := by simpa using c2
    have d4 : (x.word.k == 1) = false := by simpa using c3
    have HM1 : Hid (Marked m m code x) := show Marked m m code x from ⟨fun _ h => h, fun v _ h => by rcases h with ⟨e, _⟩ | ⟨_, e, _⟩ <;> omega⟩
    have HM := hid_of (HMM.out m HM1.out)
    obtain ⟨m1, hm1⟩ : ∃ m1, m1 = m := ⟨m, rfl⟩
    rw [← hm1] at I1 HM
    have HM1 : Hid (Marked m m1 code x) := show Marked m m1 code x by rw [hm1]; exact HM1.out
    clear c1 c2 c3 hm1 HMM HB
    go_upto_region 5 with fail
    clear eR eK eW eV eU BA BR
    go_wp2
    go_loopw [41] (fun j V => ∃ i : Nat, i ≤ 4 ∧ j = .int .i64 (i : Int) ∧ CwAt V g 93 c' q nt ∧ Blk V b (tens m1) 68 ∧ Blk V bl #[.int .i64 liar] 3 ∧ Below w0.heap.size w0 V ∧ W.heap.size ≤ V.heap.size) (fun j _ => 4 - (intOf j).toNat)
    case atStart => exact ⟨0, by omega, rfl, H1, I1, L1, B1, hs1⟩
    case round =>
      clear H1 I1 L1 B1 hs1
      obtain ⟨i, hi, rfl, H2, I2, L2, B2, hs2⟩ := hrel
      by_cases hi4' : i < 4
      · have hiI : (i : Int) < 4 := by omega
        have hn := node_any H2 i hi4' (hql i hi4')
        have HMi : Hid (∀ h, h < 4 → (c'.nd i).settled h ≠ 0 → ∃ k : Nat, k < 10 ∧ (c'.nd i).settled h = (k : Int) ∧ m1 k = true) := HM.out i hi4'
        rename World => w2
        go_wp2_with (first
          | (go_at_call 23; refine hn.mono ?_; clear hn; rintro e w3 ⟨q3, rfl, hown3, L3⟩; have hfs := field_settled ((c'.nd i).ni q3)))
        have H3 := H2.keep L3
        have I3 := I2.below L3
        have L3' := L2.below L3
        have B3 := bel_trans B2 L3
        have hs3 : W.heap.size ≤ w3.heap.size := by have := L3.size; omega
        clear H2 I2 L2 B2 hs2 L3 hown3 hfs
        obtain ⟨st, hst⟩ : ∃ st : Nat → Int, (c'.nd i).settled = st := ⟨_, rfl⟩
        rw [show ((c'.nd i).ni q3).settled = st from hst]
        rw [hst] at HMi
        have hix := fun k hk => index_four st k hk
        go_loopw [48] (fun j V => ∃ h : Nat, h ≤ 4 ∧ j = .int .i64 (h : Int) ∧ CwAt V g 93 c' q nt ∧ Blk V b (tens m1) 68 ∧ Blk V bl #[.int .i64 liar] 3 ∧ Below w0.heap.size w0 V ∧ W.heap.size ≤ V.heap.size) (fun j _ => 4 - (intOf j).toNat)
        case atStart => exact ⟨0, by omega, rfl, H3, I3, L3', B3, hs3⟩
        case round =>
          clear H3 I3 L3' B3 hs3
          obtain ⟨h, hh, rfl, H4, I4, L4, B4, hs4⟩ := hrel
          by_cases hh4 : h < 4
          · have hhI : (h : Int) < 4 := by omega
            have hixh := hix h hh4
            have HMh : Hid (st h ≠ 0 → ∃ k : Nat, k < 10 ∧ st h = (k : Int) ∧ m1 k = true) := HMi.out h hh4
            clear hix
            generalize st h = v at hixh HMh
            have eL0 : wr.cell? ⟨bl, 0, none⟩ = some (.int .i64 liar) := L4.cell 0
            by_cases hv : v = 0
            · have hv1 : (v != 0) = false := by simpa using hv
              clear hv
              go_wp2
              go_roundw
              case rel => exact ⟨h + 1, by omega, by go_num, H4, I4, L4, B4, hs4⟩
              case measure => simp [intOf]; omega
            · have hv1 : (v != 0) = true := by simpa using hv
              obtain ⟨k, hk, rfl, hmk⟩ := HMh.out hv
              clear hv HMh
              have eM0 := (I4.cell k).trans ((tens_at m1 k hk).trans (show some (Value.bool (m1 k)) = some (Value.bool true) by rw [hmk]))
              by_cases hl : (i : Int) = liar
              · have hl1 : ((i : Int) != liar) = false := by simpa using hl
                clear hl
                go_wp2
                go_roundw
                case rel => exact ⟨h + 1, by omega, by go_num, H4, I4, L4, B4, hs4⟩
                case measure => simp [intOf]; omega
              · have hl1 : ((i : Int) != liar) = true := by simpa using hl
                clear hl
                go_wp2
                go_roundw
                case rel => exact ⟨h + 1, by omega, by go_num, H4, I4, L4, B4, hs4⟩
                case measure => simp [intOf]; omega
          · have hh5 : ¬ (h : Int) < 4 := by omega
            go_wp2
            go_roundw
            case rel => exact ⟨i + 1, by omega, by go_num, H4, I4, L4, B4, hs4⟩
            case measure => simp [intOf]; omega
      · have hi5 : ¬ (i : Int) < 4 := by omega
        go_wp2
        go_ret
        exact ⟨rfl, H2, ⟨m1, I2, HM1.out⟩, L2, hs2, B2⟩
  · have d1 : (code == 0) = true := by simpa using c1
    have d2 : (x.kind == 1) = false := by simp; omega
    have d3 : (x.kind == 5) = true := by simpa using c2
    have d4 : (x.word.k == 1) = true := by simpa using c3
    obtain ⟨v0, v9⟩ := HB.out c1 x.word.v (Or.inr ⟨c2, c3, rfl⟩)
    obtain ⟨k, hk⟩ : ∃ k : Nat, x.word.v = (k : Int) := ⟨x.word.v.toNat, by omega⟩
    have hk10 : k < 10 := by omega
    obtain ⟨m1, hm1⟩ : ∃ m1 : Nat → Bool, m1 = fun j => if j = k then true else m j := ⟨_, rfl⟩
    have HM1 : Hid (Marked m m1 code x) := show Marked m m1 code x from ⟨fun j h => by rw [hm1]; show (if j = k then true else m j) = true; split; rfl; exact h, fun v _ h => by
      rcases h with ⟨e, _⟩ | ⟨_, _, e⟩
      · omega
      · rw [hm1, e, hk]; exact if_pos (by omega)⟩
    have HM := hid_of (HMM.out m1 HM1.out)
    rw [hk] at eU
    have eM := (I1.cell k).trans (tens_at m k hk10)
    have fM := I1.free k
    have I1' := I1.setCell k (.bool true)
    rw [tens_set, ← hm1] at I1'
    have H1' := H1.kept (kept_setCell b k (.bool true) w1) I1 (by decide) (by decide) (by decide)
    have L1' := L1.setCell_other ⟨b, k, none⟩ (.bool true) hne
    have B1' := (kept_setCell b k (.bool true) w1).bel _ _ hb B1
    clear c1 c2 c3 hm1 HMM HB v0 v9
    go_upto_region 5 with fail
    have hs1' : W.heap.size ≤ (w1.setCell ⟨b, k, none⟩ (.bool true)).heap.size := by rw [(kept_setCell b k (.bool true) w1).size]; exact hs1
    clear eR eK eW eV eU BA BR eM fM H1 I1 L1 B1 hs1
    have H1 := H1'
    have I1 := I1'
    have L1 := L1'
    have B1 := B1'
    have hs1 := hs1'
    clear H1' I1' L1' B1' hs1'
    generalize w1.setCell ⟨b, k, none⟩ (.bool true) = w1 at *
    go_wp2
    go_loopw [41] (fun j V => ∃ i : Nat, i ≤ 4 ∧ j = .int .i64 (i : Int) ∧ CwAt V g 93 c' q nt ∧ Blk V b (tens m1) 68 ∧ Blk V bl #[.int .i64 liar] 3 ∧ Below w0.heap.size w0 V ∧ W.heap.size ≤ V.heap.size) (fun j _ => 4 - (intOf j).toNat)
    case atStart => exact ⟨0, by omega, rfl, H1, I1, L1, B1, hs1⟩
    case round =>
      clear H1 I1 L1 B1 hs1
      obtain ⟨i, hi, rfl, H2, I2, L2, B2, hs2⟩ := hrel
      by_cases hi4' : i < 4
      · have hiI : (i : Int) < 4 := by omega
        have hn := node_any H2 i hi4' (hql i hi4')
        have HMi : Hid (∀ h, h < 4 → (c'.nd i).settled h ≠ 0 → ∃ k : Nat, k < 10 ∧ (c'.nd i).settled h = (k : Int) ∧ m1 k = true) := HM.out i hi4'
        rename World => w2
        go_wp2_with (first
          | (go_at_call 23; refine hn.mono ?_; clear hn; rintro e w3 ⟨q3, rfl, hown3, L3⟩; have hfs := field_settled ((c'.nd i).ni q3)))
        have H3 := H2.keep L3
        have I3 := I2.below L3
        have L3' := L2.below L3
        have B3 := bel_trans B2 L3
        have hs3 : W.heap.size ≤ w3.heap.size := by have := L3.size; omega
        clear H2 I2 L2 B2 hs2 L3 hown3 hfs
        obtain ⟨st, hst⟩ : ∃ st : Nat → Int, (c'.nd i).settled = st := ⟨_, rfl⟩
        rw [show ((c'.nd i).ni q3).settled = st from hst]
        rw [hst] at HMi
        have hix := fun k hk => index_four st k hk
        go_loopw [48] (fun j V => ∃ h : Nat, h ≤ 4 ∧ j = .int .i64 (h : Int) ∧ CwAt V g 93 c' q nt ∧ Blk V b (tens m1) 68 ∧ Blk V bl #[.int .i64 liar] 3 ∧ Below w0.heap.size w0 V ∧ W.heap.size ≤ V.heap.size) (fun j _ => 4 - (intOf j).toNat)
        case atStart => exact ⟨0, by omega, rfl, H3, I3, L3', B3, hs3⟩
        case round =>
          clear H3 I3 L3' B3 hs3
          obtain ⟨h, hh, rfl, H4, I4, L4, B4, hs4⟩ := hrel
          by_cases hh4 : h < 4
          · have hhI : (h : Int) < 4 := by omega
            have hixh := hix h hh4
            have HMh : Hid (st h ≠ 0 → ∃ k : Nat, k < 10 ∧ st h = (k : Int) ∧ m1 k = true) := HMi.out h hh4
            clear hix
            generalize st h = v at hixh HMh
            have eL0 : wr.cell? ⟨bl, 0, none⟩ = some (.int .i64 liar) := L4.cell 0
            by_cases hv : v = 0
            · have hv1 : (v != 0) = false := by simpa using hv
              clear hv
              go_wp2
              go_roundw
              case rel => exact ⟨h + 1, by omega, by go_num, H4, I4, L4, B4, hs4⟩
              case measure => simp [intOf]; omega
            · have hv1 : (v != 0) = true := by simpa using hv
              obtain ⟨k, hk, rfl, hmk⟩ := HMh.out hv
              clear hv HMh
              have eM0 := (I4.cell k).trans ((tens_at m1 k hk).trans (show some (Value.bool (m1 k)) = some (Value.bool true) by rw [hmk]))
              by_cases hl : (i : Int) = liar
              · have hl1 : ((i : Int) != liar) = false := by simpa using hl
                clear hl
                go_wp2
                go_roundw
                case rel => exact ⟨h + 1, by omega, by go_num, H4, I4, L4, B4, hs4⟩
                case measure => simp [intOf]; omega
              · have hl1 : ((i : Int) != liar) = true := by simpa using hl
                clear hl
                go_wp2
                go_roundw
                case rel => exact ⟨h + 1, by omega, by go_num, H4, I4, L4, B4, hs4⟩
                case measure => simp [intOf]; omega
          · have hh5 : ¬ (h : Int) < 4 := by omega
            go_wp2
            go_roundw
            case rel => exact ⟨i + 1, by omega, by go_num, H4, I4, L4, B4, hs4⟩
            case measure => simp [intOf]; omega
      · have hi5 : ¬ (i : Int) < 4 := by omega
        go_wp2
        go_ret
        exact ⟨rfl, H2, ⟨m1, I2, HM1.out⟩, L2, hs2, B2⟩

set_option maxRecDepth 100000 in
set_option maxHeartbeats 4000000 in
theorem topOrigin_any (n : Int) (l : List Ac) (s : Value) (w : World) (hs : ActsAt w s l) (hlen : l.length < 4611686018427387904) :
    Calls Try.prog 10 #[.int .i64 n, s] w fun e w' => e = .returned (.bool true) ∧ Below w.heap.size w w' := by
  have hl := liesV_bd n
  have LK : Looks 31 #[.pointer (some ⟨w.heap.size + 1, 0, none⟩), .pointer (some ⟨w.heap.size, 0, none⟩)] (liesV n) l w (fun k W => (∃ m, Blk W (w.heap.size + 1) (tens m) 68 ∧ ∀ v, MayC (liesV n) l k v → m v.toNat = true) ∧ Blk W w.heap.size #[.int .i64 (liesV n)] 3) := by
    refine ⟨fun _ _ => by show _ = _; kernel_rfl, fun k W W' hI hb => ?_, fun k g c q nt W W' hI hc ht => ?_, fun k g x q nt W hx hW _ _ hI hB => ?_⟩
    · obtain ⟨⟨m, h1, h2⟩, h3⟩ := hI
      exact ⟨⟨m, h1.below hb, h2⟩, h3.below hb⟩
    · obtain ⟨⟨m, h1, h2⟩, h3⟩ := hI
      exact ⟨⟨m, ht.blk hc.blk hc.net h1 (by decide) (by decide), h2⟩, ht.blk hc.blk hc.net h3 (by decide) (by decide)⟩
    · obtain ⟨⟨m, h1, h2⟩, h3⟩ := hI
      obtain ⟨code, nn, f, hrep⟩ := do_isRep (playC (liesV n) l k) x
      have hadd : ∀ v, code = 0 → ((x.kind = 1 ∧ v = x.value) ∨ (x.kind = 5 ∧ x.word.k = 1 ∧ v = x.word.v)) → Added (playC (liesV n) l k) x v := fun v e h => ⟨by rw [hrep, e]; rfl, h⟩
      have hcode : ∀ v, Added (playC (liesV n) l k) x v → code = 0 ∧ ((x.kind = 1 ∧ v = x.value) ∨ (x.kind = 5 ∧ x.word.k = 1 ∧ v = x.word.v)) := fun v h => by
        refine ⟨?_, h.2⟩
        have h0 := h.1
        rw [hrep] at h0
        have h1 : some (Value.int .i64 code) = some (.int .i64 0) := h0
        injection h1 with h1
        injection h1 with _ h1
      have hnew : ∀ m1, Marked m m1 code x → ∀ v, MayC (liesV n) l (k + 1) v → m1 v.toNat = true := fun m1 hm v hv => by
        rcases hv with c | ⟨x', hx', c⟩
        · exact hm.1 _ (h2 v c)
        · rw [hx] at hx'
          injection hx' with hx'
          subst hx'
          exact hm.2 v (hcode v c).1 (hcode v c).2
      rw [hrep]
      refine (origin_look (w.heap.size + 1) w.heap.size (liesV n) (playC (liesV n) l (k + 1)) x code nn f m g q nt w W (playC_good hl l (k + 1)) (fun e v h => added_bd (hadd v e h)) (fun m1 hm i hi h _ hne => ?_) hW (by omega) (by omega) h1 h3 hB).mono ?_
      · have hv := ((playC_OC hl l (k + 1)).nd i hi).settled h hne
        have hb := mayC_bd hv
        exact ⟨((playC (liesV n) l (k + 1)).nd i).settled h |>.toNat, by have : ((playC (liesV n) l (k + 1)).nd i).settled h ≤ 9 := hb.2; have : 0 ≤ ((playC (liesV n) l (k + 1)).nd i).settled h := hb.1; omega, by have : 0 ≤ ((playC (liesV n) l (k + 1)).nd i).settled h := hb.1; omega, hnew m1 hm _ hv⟩
      · rintro e W' ⟨rfl, z1, ⟨m1, z2, z3⟩, z4, z5, z6⟩
        exact ⟨rfl, z1, ⟨⟨m1, z2, hnew m1 z3⟩, z4⟩, z5, z6⟩
  have hplay := fun W (hW : Below w.heap.size w W) (hI) => play_gen 31 #[.pointer (some ⟨w.heap.size + 1, 0, none⟩), .pointer (some ⟨w.heap.size, 0, none⟩)] (liesV n) hl l s w W _ (fun W' hW' => hs.keep hW') hlen hW hI LK
  generalize playC (liesV n) l (most l) = c at hplay
  have B0 : Blk ((w.alloc (.cells #[.int .i64 n] 3)).alloc (.cells #[.bool false, .bool false, .bool false, .bool false, .bool false, .bool false, .bool false, .bool false, .bool false, .bool false] 68)) w.heap.size #[.int .i64 n] 3 := (Blk.new w _ _).alloc _
  have M0 : Blk ((w.alloc (.cells #[.int .i64 n] 3)).alloc (.cells #[.bool false, .bool false, .bool false, .bool false, .bool false, .bool false, .bool false, .bool false, .bool false, .bool false] 68)) (w.heap.size + 1) (tens fun _ => false) 68 := Blk.new1 w _ _ _
  have L0 : Below w.heap.size w ((w.alloc (.cells #[.int .i64 n] 3)).alloc (.cells #[.bool false, .bool false, .bool false, .bool false, .bool false, .bool false, .bool false, .bool false, .bool false, .bool false] 68)) := by go_grown
  have HP : Hid _ := hplay
  clear hplay LK
  obtain ⟨sa, sc, hsv⟩ := hs.len
  subst hsv
  clear hs
  go_enter Try.func10, Try.ntmps10
  go_upto_region 2 with fail
  generalize ((w.alloc (.cells #[.int .i64 n] 3)).alloc (.cells #[.bool false, .bool false, .bool false, .bool false, .bool false, .bool false, .bool false, .bool false, .bool false, .bool false] 68)) = w1 at B0 M0 L0 ⊢
  have e0 : w1.cell? ⟨w.heap.size, 0, none⟩ = some (.int .i64 n) := B0.cell 0
  have f0 := B0.free 0
  have B1 : Blk (w1.setCell ⟨w.heap.size, 0, none⟩ (.int .i64 (liesV n))) w.heap.size #[.int .i64 (liesV n)] 3 := B0.setCell 0 _
  have M1 := M0.setCell_other ⟨w.heap.size, 0, none⟩ (.int .i64 (liesV n)) (by show w.heap.size + 1 ≠ w.heap.size; omega)
  have L1 := (kept_setCell w.heap.size 0 (.int .i64 (liesV n)) w1).bel _ _ (Nat.le_refl _) L0
  go_upto_region 3 with (first
    | (go_at_call 26; refine (lies_any n _).mono ?_; rintro e w' ⟨rfl, hw'⟩; obtain rfl := hw'.symm))
  clear B0 M0 L0 e0 f0
  generalize w1.setCell ⟨w.heap.size, 0, none⟩ (.int .i64 (liesV n)) = w2 at *
  have e1 : w2.cell? ⟨w.heap.size, 0, none⟩ = some (.int .i64 (liesV n)) := B1.cell 0
  go_wp2_with (first
    | (go_at_call 27; refine (HP.out w2 L1 ⟨⟨_, M1, fun v h => h.elim⟩, B1⟩).mono ?_; rintro e w3 ⟨g, q, nt, rfl, hg, H1, hnt, _, hsz1, hB1⟩))
  go_ret
  exact ⟨rfl, hB1⟩
end Go.Proofs.Ytmmgaonlmpajbab
