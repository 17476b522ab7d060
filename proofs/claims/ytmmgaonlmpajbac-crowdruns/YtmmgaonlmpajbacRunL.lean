/-
  The landed package crowd: Run; acts copied.
  The statement TopRuns.
-/
import Derived.Test.YtmmgaonlmpajbacTPlay
import Derived.Test.YtmmgaonlmpajbacCrowdLaws
namespace Go.Proofs.Ytmmgaonlmpajbac
open Go.RowKit

/-! ### Acts are copied -/
def acsCells (l : List Ac) : List Value := l.flatMap fun x => (acArr x).toList
theorem acsCells_length (l : List Ac) : (acsCells l).length = l.length * 14 := by
  induction l with
  | nil => rfl
  | cons x l ih => rw [acsCells, List.flatMap_cons, List.length_append]; show 14 + (acsCells l).length = (l.length + 1) * 14; rw [ih]; omega
theorem acsCells_at : ∀ (l : List Ac) (i : Nat) (x : Ac), l[i]? = some x → ∀ j, j < 14 → (acsCells l)[i * 14 + j]? = (acArr x).toList[j]?
  | [], i, x, h, _, _ => by simp at h
  | y :: l, 0, x, h, j, hj => by
    obtain rfl : y = x := by simpa using h
    show ((acArr y).toList ++ acsCells l)[0 * 14 + j]? = _
    rw [List.getElem?_append_left (by show 0 * 14 + j < 14; omega), show 0 * 14 + j = j by omega]
  | y :: l, i + 1, x, h, j, hj => by
    show ((acArr y).toList ++ acsCells l)[(i + 1) * 14 + j]? = _
    rw [List.getElem?_append_right (by show 14 ≤ (i + 1) * 14 + j; omega)]
    show (acsCells l)[(i + 1) * 14 + j - 14]? = _
    rw [show (i + 1) * 14 + j - 14 = i * 14 + j by omega]
    exact acsCells_at l i x (by simpa using h) j hj
theorem acs_one (l : List Ac) : ∀ u : Value, u ∈ acsCells l → u.oneCell' = true := fun u hu => by
  obtain ⟨x, _, hx⟩ := List.mem_flatMap.1 hu
  simp only [acArr, List.mem_cons, List.not_mem_nil, or_false] at hx
  rcases hx with rfl | rfl | rfl | rfl | rfl | rfl | rfl | rfl | rfl | rfl | rfl | rfl | rfl | rfl <;> rfl
theorem acts_news {W : World} {b o : Nat} {l : List Ac} (hc : ∀ i x, l[i]? = some x → W.rangeAt b (o + i * 14) (acArr x).toList) (j : Nat) (u : Value) (hu : (acsCells l)[j]? = some u) : W.cell? ((⟨b, o, none⟩ : Addr).add j) = some u := by
  have hj : j < l.length * 14 := by
    by_cases hlt : j < l.length * 14
    · exact hlt
    · rw [List.getElem?_eq_none (by rw [acsCells_length]; omega)] at hu; cases hu
  have hx : l[j / 14]? = some l[j / 14] := List.getElem?_eq_getElem (by omega)
  have h1 := acsCells_at l (j / 14) _ hx (j % 14) (by omega)
  rw [show j / 14 * 14 + j % 14 = j by omega, hu] at h1
  have h2 := hc _ _ hx (j % 14) u h1.symm
  rw [Addr.add_mid]
  rw [show o + j / 14 * 14 + j % 14 = o + j by omega] at h2
  exact h2
theorem own_acts {W : World} {base : Nat} {v : Value} {l : List Ac} (h : W.ownsRow base 27 14 v l.length (acsCells l)) : ActsAt W v l := by
  rcases h.2 with ⟨rfl, h0⟩ | ⟨g, cap, cur, rfl, _, hh, _, _, hs, ht⟩
  · exact Or.inl ⟨List.eq_nil_of_length_eq_zero h0, none, 0, rfl⟩
  · refine Or.inr ⟨g, 0, cap, rfl, fun i x hx j u hu => ?_⟩
    have hi : i < l.length := by
      by_cases hlt : i < l.length
      · exact hlt
      · rw [List.getElem?_eq_none (by omega)] at hx; cases hx
    have hj : j < 14 := by
      by_cases hlt : j < 14
      · exact hlt
      · rw [List.getElem?_eq_none (by show 14 ≤ j; omega)] at hu; cases hu
    have hB : Blk W g cur 27 := hh
    have h1 := acsCells_at l i x hx j hj
    rw [← ht, List.getElem?_take, if_pos (by omega), Array.getElem?_toList, hu] at h1
    rw [hB.cell, show 0 + i * 14 + j = i * 14 + j by omega]
    exact h1
theorem info_act : ∃ i, Try.prog.info? 27 = some i ∧ i.zero = some (.agg (acArr ⟨0, 0, 0, 0, ⟨0, 0, 0, 0, 0, 0⟩, fun _ => 0⟩)) ∧ i.size = 14 ∧ i.bytes = 112 := by
  have h : (Try.prog.info? 27).map (fun i => (i.zero, i.size, i.bytes)) = some (some (.agg (acArr ⟨0, 0, 0, 0, ⟨0, 0, 0, 0, 0, 0⟩, fun _ => 0⟩)), 14, 112) := by kernel_rfl
  cases hq : Try.prog.info? 27 with
  | none => simp [hq] at h
  | some i =>
    simp [hq] at h
    exact ⟨i, rfl, h.1, h.2.1, h.2.2⟩
theorem append_noneA (cap : Nat) (W : World) : Sem.run Try.prog (Builtin.append_ #[22, 22] 22 #[.slice none 0 0, .slice none 0 cap]) W = .ok (.slice none 0 0) W := by
  show _ = _; kernel_rfl
/-- append([]Act(nil), l...): a copy. -/
theorem wpList_copy_acts {w : World} {ops : Array Oper} {rest : List Oper} {o : Oper} {a : Act} {Q : Exit → Act → World → Prop} (hgd : o.guard = none) (x : Operand)
    (ho : o.op = .call { callee := .builtin .append, args := #[.const (.slice none 0 0), x], argTypes := #[22, 22] }) (hty : o.type = 22) (s : Value) (l : List Ac) (hx : a.eval x = s) (H : ActsAt w s l) (hl : l.length * 112 ≤ 140737488355328)
    (h : ∀ v' w', ActsAt w' v' l → Below w.heap.size w w' → wpList Try.prog ops Q rest (a.put o.dst v') w') : wpList Try.prog ops Q (o :: rest) a w := by
  obtain ⟨i0, hi, hz0, hz1, hz2⟩ := info_act
  have own : ∀ (ad : Addr) (cap : Nat), a.eval x = .slice (some ad) l.length cap → (∀ j u, (acsCells l)[j]? = some u → w.cell? (ad.add j) = some u) → wpList Try.prog ops Q (o :: rest) a w := fun ad cap hx hnews => by
    refine wpList_append_own _ hgd _ _ 22 ho w.heap.size 27 i0 _ 14 112 Try.underlying22 hi hz0 hz1 hz2 rfl (by decide) (.slice none 0 0) 0 [] rfl (World.ownsRow_nil _ _ _ _) ad l.length cap (acsCells l) hx (acsCells_length l) hnews (acs_one l) (by unfold maxLen; omega) (by omega) (Nat.le_refl _) ?_
    intro v1 w1 hown hgrow _
    simp only [Nat.zero_add, List.nil_append] at hown
    exact h v1 w1 (own_acts hown) (below_grown hgrow)
  rcases H with ⟨hl0, ad, cap, hs⟩ | ⟨b, off, cap, hs, hc⟩
  · subst hl0
    cases ad with
    | none =>
      refine wpList_plain hgd fun K' hK' => ?_
      have hr := append_noneA cap w
      have hx' : a.eval x = .slice none 0 cap := hx.trans hs
      unfold Oper.wp execOp
      have e0 : a.eval (.const (.slice none 0 0)) = .slice none 0 0 := rfl
      simp only [ho, hty, resolve, invoke, builtin, Sem.run_bind, Sem.run_pure, Result.andThen_ok, List.map_toArray, List.map_cons, List.map_nil, e0, hx', hr]
      exact hK' _ _ (h _ _ (Or.inl ⟨rfl, none, 0, rfl⟩) (Below.refl _ _))
    | some ad => exact own ad cap (hx.trans hs) (fun j u hu => by simp [acsCells] at hu)
  · exact own ⟨b, off, none⟩ cap (hx.trans hs) (fun j u hu => acts_news hc j u hu)

/-! ### Run -/
/-- What is replied to the j-th of the acts. -/
def repC (liar : Int) (l : List Ac) (j : Nat) : Array Value := match l[j]? with
  | some x => (doC (playC liar l j) x).2
  | none => #[]
/-- The first k replies lie there. -/
def RepsAt (W : World) (b n : Nat) (liar : Int) (l : List Ac) (k : Nat) : Prop := ∃ C : Array Value, Blk W b C 35 ∧ C.size = n * 6 ∧ ∀ j, j < k → ∀ t, t < 6 → C[j * 6 + t]? = (repC liar l j)[t]?
theorem info_rp : ∃ i, Try.prog.info? 35 = some i ∧ i.zero = some (.agg zR) ∧ i.size = 6 ∧ i.bytes = 48 := by
  have h : (Try.prog.info? 35).map (fun i => (i.zero, i.size, i.bytes)) = some (some (.agg zR), 6, 48) := by kernel_rfl
  cases hq : Try.prog.info? 35 with
  | none => simp [hq] at h
  | some i =>
    simp [hq] at h
    exact ⟨i, rfl, h.1, h.2.1, h.2.2⟩
theorem RepsAt.below {W W' : World} {b n : Nat} {liar : Int} {l : List Ac} {k : Nat} (h : RepsAt W b n liar l k) (hb : Below W.heap.size W W') : RepsAt W' b n liar l k := by
  obtain ⟨C, h1, h2⟩ := h
  exact ⟨C, h1.below hb, h2⟩
theorem RepsAt.touch {W W' : World} {b n g : Nat} {liar : Int} {l : List Ac} {k : Nat} {c : Cw} {q : Nat → Value} {nt : Value} (h : RepsAt W b n liar l k) (H : CwAt W g 70 c q nt) (T : Touch g nt W W') : RepsAt W' b n liar l k := by
  obtain ⟨C, h1, h2⟩ := h
  exact ⟨C, T.blk H.blk H.net h1 (by decide) (by decide), h2⟩
/-- One more reply is stored. -/
theorem wpList_store_rep {ops : Array Oper} {rest : List Oper} {op : Oper} {a : Act} {w : World} {Q : Exit → Act → World → Prop} (hgd : op.guard = none) (x y : Operand) (ho : op.op = .store 35 x y)
    (b n k : Nat) (liar : Int) (l : List Ac) (code nn : Int) (f : Nat → Int) (hx : a.eval x = .pointer (some ⟨b, k * 6, none⟩)) (hy : a.eval y = .agg (rcells code nn f)) (hk : k < n) (hr : repC liar l k = rcells code nn f) (hB : RepsAt w b n liar l k)
    (h : ∀ w', RepsAt w' b n liar l (k + 1) → Kept b w w' → wpList Try.prog ops Q rest (a.put op.dst undef) w') : wpList Try.prog ops Q (op :: rest) a w := by
  obtain ⟨C, h1, h2, h3⟩ := hB
  have hl : (rcells code nn f).toList.length = 6 := rfl
  obtain ⟨D, d1, d2, d3⟩ := Blk.setMid_ex (rcells code nn f).toList (k * 6) w C h1 (by rw [hl]; omega)
  refine wpList_store_mid hgd 35 x y ho b (k * 6) (rcells code nn f) hx hy (h1.there_mid _ _ (by show k * 6 + 6 ≤ _; omega)) (info_rep code nn f) (one_rep code nn f) (h _ ⟨D, d1, by omega, fun j hj t ht => ?_⟩ (kept_setCells b _ _ w))
  rw [d3, hl]
  by_cases e : j = k
  · subst e
    rw [if_pos (by omega), show j * 6 + t - j * 6 = t by omega, hr, Array.getElem?_toList]
  · rw [if_neg (by omega)]
    exact h3 j (by omega) t ht

set_option maxRecDepth 100000 in
set_option maxHeartbeats 4000000 in
theorem run_any (liar : Int) (hl : -1 ≤ liar ∧ liar ≤ 3) (l : List Ac) (s : Value) (w : World) (hs : ActsAt w s l) (hlen : l.length ≤ 600) :
    Calls Try.prog 14 #[.int .i64 liar, s] w fun e w' => ∃ b, e = .returned (.tuple #[.slice (some ⟨b, 0, none⟩) l.length l.length, .int .i64 0]) ∧ RepsAt w' b l.length liar l l.length ∧ w.heap.size ≤ b ∧ Below w.heap.size w w' := by
  obtain ⟨sa, sc, hsv⟩ := hs.len
  subst hsv
  have HS : Hid (∀ W, Below w.heap.size w W → ActsAt W (.slice sa l.length sc) l) := fun W hW => hs.keep hW
  clear hs
  obtain ⟨i0, hi, hz0, hz1, hz2⟩ := info_rp
  have hlenI : ¬ ((l.length : Int) > 600) := by omega
  have hb2 : i0.bytes * l.length ≤ 281474976710656 := by rw [hz2]; omega
  have hb3 : l.length ≤ maxLen := by unfold maxLen; omega
  go_enter Try.func14, Try.ntmps14
  go_upto_region 7 with (first
    | (go_at_call 15; refine (new_good liar hl _).mono ?_; rintro e w2 ⟨rfl, H2, L2⟩)
    | (at_make; refine wpList_make_full _ rfl _ _ 40 rfl w2.heap.size 35 i0 _ 6 Try.underlying40 hi hz0 hz1 .i64 .i64 _ _ l.length rfl rfl rfl rfl hb2 hb3 (Nat.le_refl _) ?_; intro w3 O3 G3))
  have L3 : Below w2.heap.size w2 w3 := below_grown G3
  have H3 := H2.keep L3
  have B3 := bel_trans L2 L3
  have hg : w.heap.size ≤ w.heap.size := Nat.le_refl _
  have R3 : RepsAt w3 w2.heap.size l.length liar l 0 := by
    rcases O3.2 with ⟨h, _⟩ | ⟨g, cap, cur, hv, _, hh, _, _, hsz, _⟩
    · cases h
    · injection hv with hv1 _ hv3
      injection hv1 with hv1
      injection hv1 with hv1 _ _
      subst hv1 hv3
      exact ⟨cur, hh, hsz, fun j hj => by omega⟩
  have hbw : w.heap.size ≤ w2.heap.size := L2.size
  clear O3 G3 L3 H2 L2 hb2 hb3 hi hz0 hz1 hz2
  generalize w2.heap.size = b at R3 hbw ⊢
  go_wp2
  go_loopw [27] (fun i V => ∃ (k : Nat) (q : Nat → Value) (nt : Value), k ≤ l.length ∧ i = .int .i64 (k : Int) ∧ CwAt V w.heap.size 70 (playC liar l k) q nt ∧ (∀ b, nt.ownBlock = some b → w.heap.size ≤ b) ∧ RepsAt V b l.length liar l k ∧ Below w.heap.size w V) (fun i _ => l.length - (intOf i).toNat)
  case atStart => exact ⟨0, _, _, by omega, rfl, H3, (fun b hb => by cases hb), R3, B3⟩
  case round =>
    clear H3 R3 B3
    obtain ⟨k, q, nt, hk, rfl, H4, hnt, R4, B4⟩ := hrel
    by_cases hlt : k < l.length
    · have hkI : (k : Int) < (l.length : Int) := by omega
      have hx : l[k]? = some l[k] := List.getElem?_eq_getElem hlt
      obtain ⟨ab, ao, cap, hv, hr⟩ := (HS.out wr B4).lies hx
      injection hv with hv1 hv2 hv3
      subst hv1 hv3
      have hG := playC_good hl l k
      have HP : Hid (playC liar l (k + 1) = (doC (playC liar l k) l[k]).1) := playC_succ hx
      have hdo := fun W q nt (hW : CwAt W w.heap.size 70 (playC liar l k) q nt) => do_any hG hW l[k]
      obtain ⟨code, nn, f, hrep⟩ := do_isRep (playC liar l k) l[k]
      have hrc : repC liar l k = rcells code nn f := by unfold repC; rw [hx]; exact hrep
      rw [hrep, ← HP.out] at hdo
      have HDo : Hid _ := hdo
      clear hdo hrep hx hG HP
      generalize l[k] = x at hr HDo
      have hia : (Try.prog.info? 27).map (·.size) = some (acArr x).size := by show _ = some 14; kernel_rfl
      have hone : (acArr x).all (·.oneCell') = true := by show _ = _; kernel_rfl
      rename World => w5
      have Z5 : Blk (w5.alloc (.cells (acArr ⟨0, 0, 0, 0, ⟨0, 0, 0, 0, 0, 0⟩, fun _ => 0⟩) 27)) w5.heap.size (acArr ⟨0, 0, 0, 0, ⟨0, 0, 0, 0, 0, 0⟩, fun _ => 0⟩) 27 := Blk.new w5 _ _
      have La : Below w5.heap.size w5 (w5.alloc (.cells (acArr ⟨0, 0, 0, 0, ⟨0, 0, 0, 0, 0, 0⟩, fun _ => 0⟩) 27)) := by go_grown
      go_upto_region 10 with (first
        | (refine wpList_load_part (by rfl) 27 _ rfl ab (ao + k * 14) (by first | rfl | simp) (acArr x) _ hr Try.underlying27 rfl hia ?_)
        | (refine wpList_store_blk rfl 27 _ _ rfl w5.heap.size (acArr ⟨0, 0, 0, 0, ⟨0, 0, 0, 0, 0, 0⟩, fun _ => 0⟩) (acArr x) 27 rfl rfl Z5 rfl hia hone ?_; rintro w6 A6 K6; have L6 := K6.bel _ _ (Nat.le_refl _) La))
      have H6 := H4.keep L6
      have R6 := R4.below L6
      have B6 := bel_trans B4 L6
      have hw6 := B6.size
      clear H4 R4 B4 L6 K6 Z5 La hr
      go_wp2_with (first
        | (refine wpList_load_part (by rfl) 27 _ rfl w5.heap.size 0 (by first | rfl | simp) (acArr x) _ A6.range Try.underlying27 rfl hia ?_)
        | (go_at_call 11; refine (HDo.out w6 q nt H6).mono ?_; rintro e w7 ⟨rfl, q7, nt7, H7, T7, N7⟩; have R7 := R6.touch H6 T7)
        | (refine wpList_store_rep rfl _ _ rfl b l.length k liar l code nn f (by first | rfl | simp) rfl hlt hrc R7 ?_; rintro w8 R8 K8))
      go_roundw
      case rel =>
        obtain ⟨C7, c7, _⟩ := R7
        refine ⟨k + 1, q7, nt7, by omega, by go_num, H7.kept K8 c7 (by decide) (by decide) (by decide), fun b hb => ?_, R8, K8.bel _ _ hbw (bel_seq B6 (T7.bel (Nat.le_refl _) hnt hw6))⟩
        rcases N7 with h | h
        · exact hnt b (by rw [← h]; exact hb)
        · have := h b hb; omega
      case measure => simp [intOf]; omega
    · have hkI : ¬ (k : Int) < (l.length : Int) := by omega
      have hkl : Hid (k = l.length) := show k = l.length by omega
      go_wp2
      go_ret2
      rw [hkl.out] at R4
      exact ⟨b, rfl, R4, hbw, B4⟩
end Go.Proofs.Ytmmgaonlmpajbac
namespace Go.Proofs.Ytmmgaonlmpajbac
open Go.RowKit

theorem size_ac (W : World) : (sizeOf 27).run Try.prog W = .ok 14 W := by show _ = _; kernel_rfl
theorem elem_ac : Try.prog.underlying 22 = some (.slice (Try.prog.elem 22)) := by kernel_rfl
theorem elem_ac' : Try.prog.elem 22 = 27 := by kernel_rfl
theorem sliceT (a : Option Addr) (len cap k : Nat) (h : k ≤ cap) (W : World) : Sem.run Try.prog (Instr.slice 22 (.slice a len cap) none (some (.int .i64 (k : Int))) none) W = .ok (.slice a k cap) W := by
  rw [run_slice_h W _ a len cap elem_ac .i64 (k : Int) (by omega) (by omega), elem_ac', size_ac]
  cases a with
  | none => simp [sliced]
  | some a => obtain ⟨b, o, sp⟩ := a; simp [sliced, Addr.add]
theorem acts_take {W : World} {a : Option Addr} {cap k : Nat} {l : List Ac} (h : ActsAt W (.slice a l.length cap) l) (hk : k ≤ l.length) : ActsAt W (.slice a k cap) (l.take k) := by
  rcases h with ⟨rfl, a', c', e⟩ | ⟨b, o, c', e, hc⟩
  · have : k = 0 := by simpa using hk
    subst this
    exact Or.inl ⟨rfl, a, cap, rfl⟩
  · injection e with e1 _ e3
    subst e1 e3
    refine Or.inr ⟨b, o, cap, by rw [List.length_take, Nat.min_eq_left hk], fun i x hx => ?_⟩
    have hi : i < k := by
      by_cases hlt : i < k
      · exact hlt
      · rw [List.getElem?_take, if_neg hlt] at hx; cases hx
    rw [List.getElem?_take, if_pos hi] at hx
    exact hc i x hx
theorem playC_take (liar : Int) (l : List Ac) {k j : Nat} (h : j ≤ k) : playC liar (l.take k) j = playC liar l j := by
  unfold playC
  rw [List.take_take, Nat.min_eq_left h]
theorem repC_take (liar : Int) (l : List Ac) {k j : Nat} (h : j < k) : repC liar (l.take k) j = repC liar l j := by
  unfold repC
  rw [List.getElem?_take, if_pos h, playC_take liar l (Nat.le_of_lt h)]
theorem rep_range {W : World} {b n : Nat} {liar : Int} {l : List Ac} {k : Nat} (h : RepsAt W b n liar l k) {j : Nat} (hj : j < k) {D : Array Value} (hD : repC liar l j = D) (hs : D.size = 6) : W.rangeAt b (j * 6) D.toList := by
  obtain ⟨C, h1, _, h3⟩ := h
  intro t u hu
  have ht : t < 6 := by
    by_cases hlt : t < 6
    · exact hlt
    · rw [List.getElem?_eq_none (by rw [Array.length_toList]; omega)] at hu; cases hu
  rw [h1.cell, h3 j hj t ht, hD]
  rw [Array.getElem?_toList] at hu
  exact hu
theorem repC_isRep (liar : Int) (l : List Ac) {j : Nat} (h : j < l.length) : ∃ code n f, repC liar l j = rcells code n f := by
  unfold repC
  rw [List.getElem?_eq_getElem h]
  exact do_isRep _ _
theorem modL_bd (a : Int) (m : Nat) : (-((m : Int) + 1) < a.tmod ((m : Int) + 1) ∧ a.tmod ((m : Int) + 1) < (m : Int) + 1) ∧ 0 ≤ (a.tmod ((m : Int) + 1) + (m : Int) + 1).tmod ((m : Int) + 1) ∧ (a.tmod ((m : Int) + 1) + (m : Int) + 1).tmod ((m : Int) + 1) < (m : Int) + 1 := by
  have h1 : a.tmod ((m : Int) + 1) < (m : Int) + 1 := Int.tmod_lt_of_pos a (by omega)
  have h2 : -((m : Int) + 1) < a.tmod ((m : Int) + 1) := by
    have := Int.lt_tmod_of_pos a (show (0 : Int) < (m : Int) + 1 by omega)
    omega
  exact ⟨⟨h2, h1⟩, Int.tmod_nonneg _ (by omega), Int.tmod_lt_of_pos _ (by omega)⟩

set_option maxRecDepth 100000 in
set_option maxHeartbeats 4000000 in
theorem topRuns_any (n : Int) (l : List Ac) (k0 : Int) (s : Value) (w : World) (hs : ActsAt w s l) (hlen : l.length * 112 ≤ 140737488355328) (hcap : ∃ a c, s = .slice a l.length c ∧ l.length ≤ c) :
    Calls Try.prog 4 #[.int .i64 n, s, .int .i64 k0] w fun e w' => e = .returned (.bool true) ∧ Below w.heap.size w w' := by
  obtain ⟨sa, sc, hsv, hsc⟩ := hcap
  subst hsv
  by_cases h300 : (l.length : Int) > 300
  · clear hs
    go_enter Try.func4, Try.ntmps4
    go_upto_region 2 with (first
      | (go_at_call 13; refine (talive_any _).mono ?_; rintro e w1 ⟨rfl, L1⟩))
    go_wp2_with (first
      | (go_at_call 13; refine (talive_any _).mono ?_; rintro e w2 ⟨rfl, L2⟩))
    go_ret
    exact ⟨rfl, bel_trans L1 L2⟩
  · have hl := liesV_bd n
    have hm := modL_bd k0 l.length
    have hm1 := hm.1.1
    have hm2 := hm.1.2
    have hm3 := hm.2.1
    have hm4 := hm.2.2
    have hne : ¬ ((l.length : Int) + 1 = 0) := by omega
    obtain ⟨k, hk⟩ : ∃ k : Nat, (k0.tmod ((l.length : Int) + 1) + (l.length : Int) + 1).tmod ((l.length : Int) + 1) = (k : Int) := ⟨((k0.tmod ((l.length : Int) + 1) + (l.length : Int) + 1).tmod ((l.length : Int) + 1)).toNat, by omega⟩
    have hkl : k ≤ l.length := by omega
    have HS : Hid (∀ W, Below w.heap.size w W → ActsAt W (.slice sa l.length sc) l) := fun W hW => hs.keep hW
    have HT : Hid (∀ W, Below w.heap.size w W → ActsAt W (.slice sa k sc) (l.take k)) := fun W hW => acts_take (hs.keep hW) hkl
    have hlk : (l.take k).length = k := by rw [List.length_take, Nat.min_eq_left hkl]
    have hsl := sliceT sa l.length sc k (by omega)
    have HR1 := fun W s' (h : ActsAt W s' l) => run_any (liesV n) hl l s' W h (by omega)
    have HR2 := fun W s' (h : ActsAt W s' (l.take k)) => run_any (liesV n) hl (l.take k) s' W h (by omega)
    rw [hlk] at HR2
    have HRun1 : Hid _ := HR1
    have HRun2 : Hid _ := HR2
    clear hs HR1 HR2 hm
    go_enter Try.func4, Try.ntmps4
    go_upto_region 4 with (first
      | (go_at_call 13; refine (talive_any _).mono ?_; rintro e w1 ⟨rfl, L1⟩))
    go_upto_region 5 with (first
      | (go_at_call 9; refine (lies_any n _).mono ?_; rintro e w' ⟨rfl, hw'⟩; obtain rfl := hw'.symm)
      | (at_builtin; refine wpList_copy_acts rfl _ rfl rfl _ l rfl (HS.out w1 L1) (by omega) ?_; intro v2 w2 A2 L2)
      | (go_at_call 14; refine (HRun1.out w2 v2 A2).mono ?_; rintro e w3 ⟨b3, rfl, R3, hb3, L3⟩))
    have B3 := bel_trans (bel_trans L1 L2) L3
    have hsz3 := B3.size
    have B3d : Below w.heap.size w w3.drew := below_drew' B3
    refine held_region (fun _ => True) [] [(0, 0), (2, 0), (3, 0), (4, 0), (1, 2), (5, 2), (6, 2), (7, 0), (8, 0), (9, 0), (10, 0), (11, 0)] (by kernel_rfl) (by kernel_rfl) (by kernel_rfl) rfl (fun _ _ d _ _ h => by cases d <;> exact h) trivial ?_
    repeat (first
      | (refine ord_run0_ex rfl (by rfl) ?_
         apply Exists.intro
         refine ⟨fun w0 => ?_, ?_⟩
         · go_simp; first | rfl | exact hsl _
         simp only [Act.put, List.setIfInBounds_toArray, List.set_cons_zero, List.set_cons_succ]))
    refine ord_call_ex rfl (by rfl) ?_
    apply Exists.intro
    apply Exists.intro
    refine ⟨?_, ?_⟩
    · go_simp; exact ⟨rfl, rfl⟩
    refine (lies_any n _).mono ?_
    rintro e w' ⟨rfl, hw'⟩
    obtain rfl := hw'.symm
    refine ⟨_, rfl, fun _ => trivial, ?_⟩
    simp only [Act.put, List.setIfInBounds_toArray, List.set_cons_zero, List.set_cons_succ]
    refine ord_do rfl ?_
    refine wpList_copy_acts rfl _ rfl rfl _ (l.take k) rfl (HT.out _ B3d) (by omega) ?_
    intro v4 w4 A4 L4
    refine ⟨fun _ => trivial, ?_⟩
    simp only [Act.put, List.setIfInBounds_toArray, List.set_cons_zero, List.set_cons_succ]
    refine ord_call_ex rfl (by rfl) ?_
    apply Exists.intro
    apply Exists.intro
    refine ⟨?_, ?_⟩
    · go_simp; exact ⟨rfl, rfl⟩
    refine (HRun2.out w4 v4 A4).mono ?_
    rintro e w5 ⟨b5, rfl, R5, hb5, L5⟩
    refine ⟨_, rfl, fun _ => trivial, ?_⟩
    simp only [Act.put, List.setIfInBounds_toArray, List.set_cons_zero, List.set_cons_succ]
    repeat (first
      | (refine ord_run0_ex rfl (by rfl) ?_
         apply Exists.intro
         refine ⟨fun w0 => ?_, ?_⟩
         · go_simp; rfl
         simp only [Act.put, List.setIfInBounds_toArray, List.set_cons_zero, List.set_cons_succ]))
    show wpOrd _ _ _ _ _ [] _ _ _
    unfold wpOrd
    have L45 : Below w3.drew.heap.size w3.drew w5 := bel_trans L4 L5
    have R3' : RepsAt w5 b3 l.length (liesV n) l l.length := RepsAt.below (W := w3.drew) (by obtain ⟨C, z⟩ := R3; exact ⟨C, z.1.drew, z.2⟩) L45
    have B5 := bel_trans B3d L45
    have HR3 : Hid (∀ W, Below w5.heap.size w5 W → ∀ j, j < k → ∀ D, repC (liesV n) l j = D → D.size = 6 → W.rangeAt b3 (j * 6) D.toList) := fun W hW j hj D hD hs => rep_range (R3'.below hW) (by omega) hD hs
    have HR5 : Hid (∀ W, Below w5.heap.size w5 W → ∀ j, j < k → ∀ D, repC (liesV n) l j = D → D.size = 6 → W.rangeAt b5 (j * 6) D.toList) := fun W hW j hj D hD hs => rep_range (R5.below hW) hj (by rw [repC_take _ _ hj]; exact hD) hs
    clear R3 R3' R5 L45 L4 L5 A4 B3 B3d L1 L2 L3 A2 HRun1 HRun2 HS HT hsl
    go_wp2
    go_loopw [11] (fun i V => ∃ j : Nat, j ≤ k ∧ i = .int .i64 (j : Int) ∧ Below w5.heap.size w5 V) (fun i _ => k - (intOf i).toNat)
    case atStart => exact ⟨0, by omega, rfl, Below.refl _ _⟩
    case round =>
      obtain ⟨j, hj, rfl, hB⟩ := hrel
      by_cases hjk : j < k
      · have hjI : (j : Int) < (k : Int) := by omega
        have hjL : (j : Int) < (l.length : Int) := by omega
        obtain ⟨code, nn, f, hrep⟩ := repC_isRep (liesV n) l (j := j) (by omega)
        have hr1 : ∀ V, Below w5.heap.size w5 V → V.rangeAt b3 (j * 6) (rcells code nn f).toList := fun V hV => HR3.out V hV j hjk _ hrep rfl
        have hr2 : ∀ V, Below w5.heap.size w5 V → V.rangeAt b5 (j * 6) (rcells code nn f).toList := fun V hV => HR5.out V hV j hjk _ hrep rfl
        have heq := eq_rep code nn f
        have hir := info_rep code nn f
        clear hrep
        generalize rcells code nn f = X at hr1 hr2 heq hir
        go_upto_region 11 with fail
        refine q_region (C := fun V => Below w5.heap.size w5 V) (by kernel_rfl) (by kernel_rfl) (below_drew' hB) ?_
        repeat (first
          | (refine q_skip (by rfl) ?_; simp only [Act.put, List.setIfInBounds_toArray, List.set_cons_zero, List.set_cons_succ])
          | (refine q_load (by rfl) 35 _ rfl b3 (j * 6) (by first | rfl | simp) X _ hr1 Try.underlying35 rfl hir ?_; simp only [Act.put, List.setIfInBounds_toArray, List.set_cons_zero, List.set_cons_succ])
          | (refine q_load (by rfl) 35 _ rfl b5 (j * 6) (by first | rfl | simp) X _ hr2 Try.underlying35 rfl hir ?_; simp only [Act.put, List.setIfInBounds_toArray, List.set_cons_zero, List.set_cons_succ])
          | (refine q_run_ex (by rfl) ?_
             apply Exists.intro
             refine ⟨fun w0 hC => ?_, ?_⟩
             · clear hC; go_simp; rfl
             simp only [Act.put, List.setIfInBounds_toArray, List.set_cons_zero, List.set_cons_succ]))
        refine q_nil ?_
        intro w6 hC6
        go_wp2
        go_roundw
        case rel => exact ⟨j + 1, by omega, by go_num, hC6⟩
        case measure => simp [intOf]; omega
      · have hjI : ¬ (j : Int) < (k : Int) := by omega
        go_wp2
        go_ret
        exact ⟨rfl, bel_trans B5 hB⟩
end Go.Proofs.Ytmmgaonlmpajbac
