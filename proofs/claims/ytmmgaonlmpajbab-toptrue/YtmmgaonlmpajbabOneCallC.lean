/-
  A node that is true says one thing of each kind in each round: of plain crowds.
-/
import Derived.Test.YtmmgaonlmpajbabOneCall
import Derived.Test.YtmmgaonlmpajbabTPlay
import Derived.Test.YtmmgaonlmpajbabTopInv
namespace Go.Proofs.Ytmmgaonlmpajbab

/-- Whatever an act does is one of these. -/
theorem do_ind {c : Cw} (G : CG c) (a : Ac) (P : Cw → Prop) (h0 : P c) (hm : c.acts ≠ 600 → P c.more)
    (hs : c.acts ≠ 600 → ∀ i y, i < 4 → win y 1 9 = true → (c.nd i).queue.length < 6 → P (c.more.did i (submitN i (c.nd i) y)))
    (hd : c.acts ≠ 600 → ∀ x, x ∈ c.net → x.2.good → P (c.more.did x.1 (hearN x.1 (c.nd x.1) x.2)))
    (hr : c.acts ≠ 600 → ∀ n, P { c.more with net := c.net.eraseIdx n })
    (ht : c.acts ≠ 600 → ∀ i, i < 4 → P (c.more.did i (timeN i (c.nd i))))
    (hl : c.acts ≠ 600 → ∀ i w, i < 4 → w.good → w.f = c.liar → P (c.more.did i (hearN i (c.nd i) w))) : P (doC c a).1 := by
  unfold doC
  split
  · exact h0
  · rename_i h6
    have G1 := G.more h6
    split
    · unfold subC
      split
      · rename_i hi
        have hi' := win_iff.1 hi
        split
        · rename_i hsc
          have h4 : a.node.toNat < 4 := by omega
          have hw := G1.nd a.node.toNat h4
          have hy : win a.value 1 9 = true := by
            cases hy : win a.value 1 9
            · unfold subCode at hsc; rw [hy] at hsc; simp at hsc
            · rfl
          have hlq : (c.more.nd a.node.toNat).queue.length < 6 := by
            unfold subCode at hsc
            rw [if_pos hy] at hsc
            by_cases hlq : (c.more.nd a.node.toNat).queue.length = 6
            · rw [if_pos hlq] at hsc; cases hsc
            · have := hw.good.qlen; omega
          exact hs h6 a.node.toNat a.value h4 hy hlq
        · exact hm h6
      · exact hm h6
    · split
      · unfold deliverC
        split
        · rename_i x hx
          split
          · unfold hearC
            split
            · rename_i g
              exact hd h6 x (List.mem_of_getElem? hx) g
            · exact hm h6
          · exact hm h6
        · exact hm h6
      · split
        · unfold dropC
          split
          · exact hr h6 _
          · exact hm h6
        · split
          · unfold timeC
            split
            · rename_i hi
              have hi' := win_iff.1 hi
              exact ht h6 a.node.toNat (by omega)
            · exact hm h6
          · split
            · unfold lieC
              split
              · rename_i g
                split
                · rename_i f
                  split
                  · rename_i hi
                    have hi' := win_iff.1 hi
                    unfold hearC
                    rw [if_pos g]
                    exact hl h6 a.node.toNat a.word (by omega) g f
                  · exact hm h6
                · exact hm h6
              · exact hm h6
            · split <;> exact hm h6

/-- What was proposed stands on the sheet of the node that proposed it. -/
structure CC (c : Cw) : Prop where
  nd : ∀ i, i < 4 → (c.nd i).step = 0 → (c.nd i).validIn < ((c.nd i).round : Int)
  net : ∀ x, x ∈ c.net → x.2.k = 1 → ∃ i : Nat, i < 4 ∧ x.2.f = (i : Int) ∧ ((c.nd i).heard x.2.h.toNat).is x.2.r.toNat = true ∧ ((c.nd i).heard x.2.h.toNat).val x.2.r.toNat = x.2.v
  kinds : ∀ x, x ∈ c.net → (1 ≤ x.2.k ∧ x.2.k ≤ 3) ∧ 0 ≤ x.2.v ∧ x.2.v ≤ 9
/-- From one crowd to another nothing that was heard is forgotten. -/
def GrowW (c d : Cw) : Prop := ∀ i, i < 4 → Grow (c.nd i) (d.nd i) ∧ GrowC (c.nd i) (d.nd i)
theorem CC.did {c : Cw} (h : CC c) {i : Nat} (hi : i < 4) {a : At} (A : CS (c.nd i) a) (M : Mine i a) (S : Grow (c.nd i) a.n) : CC (c.did i a) ∧ GrowW c (c.did i a) := by
  have e : ∀ k, (c.did i a).nd k = if k = i then a.n else c.nd k := fun _ => rfl
  refine ⟨⟨fun k hk => ?_, fun x hx hk => ?_, fun x hx => ?_⟩, fun k hk => ?_⟩
  · rw [e]
    by_cases c1 : k = i
    · rw [if_pos c1]; exact A.vin
    · rw [if_neg c1]; exact h.nd k hk
  · rcases sendAll_mem i a.words c.net x hx with y | y
    · obtain ⟨k, k4, kf, k1, k2⟩ := h.net x y hk
      refine ⟨k, k4, kf, ?_⟩
      rw [e]
      by_cases c1 : k = i
      · subst c1
        rw [if_pos rfl]
        have := A.grow _ _ k1
        exact ⟨this.1, this.2.trans k2⟩
      · rw [if_neg c1]; exact ⟨k1, k2⟩
    · refine ⟨i, hi, M _ y.2.2, ?_⟩
      rw [e, if_pos rfl]
      exact A.calls _ y.2.2 hk
  · rcases sendAll_mem i a.words c.net x hx with y | y
    · exact h.kinds x y
    · exact A.kinds _ y.2.2
  · rw [e]
    by_cases c1 : k = i
    · subst c1; rw [if_pos rfl]; exact ⟨S, A.grow⟩
    · rw [if_neg c1]; exact ⟨Grow.refl _, GrowC.refl _⟩
theorem start_CS {n : Nd} (h : n.step = 0 → n.validIn < (n.round : Int)) : CS n ⟨n, []⟩ := ⟨h, fun w hw => (by cases hw), GrowC.refl n, fun w hw => (by cases hw)⟩
theorem hear_CS {n : Nd} (W : Whole n) {who : Nat} (hw : who < 4) (h : n.step = 0 → n.validIn < (n.round : Int)) (v : Wd) : CS n (hearN who n v) ∧ Mine who (hearN who n v) ∧ Grow n (hearN who n v).n := by
  have G1 : GN (n.setSheet v.h.toNat (hearW (n.heard v.h.toNat) v)) := W.good.hear _ v
  have hs : CS n ⟨n.setSheet v.h.toNat (hearW (n.heard v.h.toNat) v), []⟩ := ⟨h, fun w hw => (by cases hw), growC_set n _ v, fun w hw => (by cases hw)⟩
  refine ⟨CS.follow hw (FI.start G1) hs, follow_mine (fun w hw => by cases hw), (grow_set n _ v).trans (follow_step (who := who) (a := ⟨n.setSheet v.h.toNat (hearW (n.heard v.h.toNat) v), []⟩) G1.ng).grow⟩
theorem submit_CS {n : Nd} (W : Whole n) {who : Nat} (hw : who < 4) (h : n.step = 0 → n.validIn < (n.round : Int)) {y : Int} (hy : win y 1 9 = true) (h6 : n.queue.length < 6) : CS n (submitN who n y) := by
  have e2 : submitN who n y = if n.height < 4 ∧ n.step = 0 then follow who (enter who ⟨n.push y, []⟩ n.round) else ⟨n.push y, []⟩ := rfl
  have GP : GN (n.push y) := W.good.push (win_iff.1 hy) h6
  have hp : CS n ⟨n.push y, []⟩ := ⟨h, fun w hw => (by cases hw), GrowC.refl n, fun w hw => (by cases hw)⟩
  rw [e2]
  split
  · rename_i c
    exact CS.follow hw (FI.enter0 (who := who) (n := n.push y) GP) (hp.enter hw n.round GP.round GP.height (h c.2) (vd_le GP).2 GP.queue)
  · exact hp
theorem time_CS {n : Nd} (W : Whole n) {who : Nat} (hw : who < 4) (h : n.step = 0 → n.validIn < (n.round : Int)) : CS n (timeN who n) := by
  have hg := W.good
  have few1 : ∀ a : At, a.words.length ≤ 1 → GN a.n → FI a := fun a hw hg => ⟨hg, by have := mu_le hg.ng; omega⟩
  have hn := start_CS h
  unfold timeN
  split
  · exact hn
  · split
    · exact CS.follow hw (few1 _ (by simp [tell]) (GN.tell (a := ⟨{ n with step := 1 }, []⟩) ⟨hg.height, hg.round, by show 1 ≤ 2; omega, hg.bd, hg.vd, hg.sheets, hg.low, hg.high, hg.queue, hg.qlen⟩ _ _ _)) (CS.tell (a := ⟨{ n with step := 1 }, []⟩) (hn.of (fun hz => absurd hz (by show ¬ 1 = 0; omega)) rfl rfl) _ _ _ (by decide) (fun hk => absurd hk (by decide)))
    · split
      · split
        · exact CS.follow hw (few1 _ (by simp [tell]) (GN.tell (a := ⟨{ n with step := 2 }, []⟩) ⟨hg.height, hg.round, by show 2 ≤ 2; omega, hg.bd, hg.vd, hg.sheets, hg.low, hg.high, hg.queue, hg.qlen⟩ _ _ _)) (CS.tell (a := ⟨{ n with step := 2 }, []⟩) (hn.of (fun hz => absurd hz (by show ¬ 2 = 0; omega)) rfl rfl) _ _ _ (by decide) (fun hk => absurd hk (by decide)))
        · exact CS.follow hw (a := ⟨n, []⟩) (FI.start hg) hn
      · split
        · have hv := vd_le hg
          exact CS.follow hw (few1 _ (by have := enter_len who ⟨n, []⟩ (n.round + 1); simpa using this) (GN.enter (a := ⟨n, []⟩) hg _ (by show n.round ≤ n.round + 1; omega) (by omega))) (CS.enter hw (a := ⟨n, []⟩) hn _ (by omega) hg.height (by show n.validIn < ((n.round + 1 : Nat) : Int); omega) hv.2 hg.queue)
        · exact CS.follow hw (a := ⟨n, []⟩) (FI.start hg) hn
theorem do_CC {c : Cw} (G : CG c) (h : CC c) (a : Ac) : CC (doC c a).1 ∧ GrowW c (doC c a).1 := by
  have r0 : GrowW c c := fun i _ => ⟨Grow.refl _, GrowC.refl _⟩
  have h1 : CC c.more := ⟨h.nd, h.net, h.kinds⟩
  refine do_ind G a (fun d => CC d ∧ GrowW c d) ⟨h, r0⟩ (fun _ => ⟨h1, r0⟩) (fun h6 i y hi hy hq => ?_) (fun h6 x hx gx => ?_) (fun _ n => ⟨⟨h.nd, fun x hx => h.net x (List.mem_of_mem_eraseIdx hx), fun x hx => h.kinds x (List.mem_of_mem_eraseIdx hx)⟩, r0⟩) (fun h6 i hi => ?_) (fun h6 i w hi gw _ => ?_)
  · have hw := G.nd i hi
    have st := submit_step (who := i) hw hy hq
    exact CC.did h1 hi (submit_CS hw hi (h.nd i hi) hy hq) st.2 st.1.grow
  · have hi := G.dest x hx
    obtain ⟨z1, z2, z3⟩ := hear_CS (G.nd x.1 hi) hi (h.nd x.1 hi) x.2
    exact CC.did h1 hi z1 z2 z3
  · have hw := G.nd i hi
    have st := time_step (who := i) hw
    exact CC.did h1 hi (time_CS hw hi (h.nd i hi)) st.2 st.1.grow
  · obtain ⟨z1, z2, z3⟩ := hear_CS (G.nd i hi) hi (h.nd i hi) w
    exact CC.did h1 hi z1 z2 z3
theorem new_CC (liar : Int) : CC (newC liar) := ⟨fun i _ _ => by show (-1 : Int) < 0; omega, fun x hx => (by cases hx), fun x hx => by cases hx⟩
theorem playC_CC {liar : Int} (hl : -1 ≤ liar ∧ liar ≤ 3) (l : List Ac) : ∀ k, CC (playC liar l k)
  | 0 => new_CC liar
  | k + 1 => by
    cases h : l[k]? with
    | none =>
      have e : playC liar l (k + 1) = playC liar l k := by
        unfold playC
        rw [List.take_add_one, h]; simp
      rw [e]; exact playC_CC hl l k
    | some a => rw [playC_succ h]; exact (do_CC (playC_good hl l k) (playC_CC hl l k) a).1

/-- A node has said it: it stands on its sheet. -/
def OnS (c : Cw) (w : Wd) (v : Int) : Prop := 0 ≤ v ∧ ∃ i : Nat, i < 4 ∧ w.f = (i : Int) ∧ (w.k = 1 → ((c.nd i).heard w.h.toNat).is w.r.toNat = true ∧ ((c.nd i).heard w.h.toNat).val w.r.toNat = v) ∧ (w.k = 2 → ((c.nd i).heard w.h.toNat).wi w.r.toNat i = v + 1) ∧ (w.k = 3 → ((c.nd i).heard w.h.toNat).pr w.r.toNat i = v + 1) ∧ 1 ≤ w.k ∧ w.k ≤ 3
theorem OnS.grow {c d : Cw} (g : GrowW c d) {w : Wd} {v : Int} (h : OnS c w v) : OnS d w v := by
  obtain ⟨h0, i, hi, hf, h1, h2, h3, k1, k3⟩ := h
  have gi := g i hi
  refine ⟨h0, i, hi, hf, fun e => ?_, fun e => ?_, fun e => ?_, k1, k3⟩
  · obtain ⟨a, b⟩ := h1 e
    have := gi.2 _ _ a
    exact ⟨this.1, this.2.trans b⟩
  · have := h2 e
    rw [gi.1.wi _ _ _ (by omega)]; exact this
  · have := h3 e
    rw [gi.1.pr _ _ _ (by omega)]; exact this
theorem OnS.same {c : Cw} {w w' : Wd} {u v : Int} (h : OnS c w u) (k : OnS c w' v) (ek : w.k = w'.k) (ef : w.f = w'.f) (eh : w.h = w'.h) (er : w.r = w'.r) : u = v := by
  obtain ⟨_, i, _, hf, h1, h2, h3, k1, k3⟩ := h
  obtain ⟨_, j, _, jf, j1, j2, j3, _, _⟩ := k
  have e : i = j := by omega
  subst e
  rw [ek, eh, er] at h1 h2 h3
  rw [ek] at k1 k3
  have hk : w'.k = 1 ∨ w'.k = 2 ∨ w'.k = 3 := by omega
  rcases hk with z | z | z
  · have a := (h1 z).2
    have b := (j1 z).2
    omega
  · have a := h2 z
    have b := j2 z
    omega
  · have a := h3 z
    have b := j3 z
    omega
/-- What lies there was said. -/
theorem net_on {c : Cw} {liar : Int} (hl : c.liar = liar) (T : TI c) (C : CC c) {x : Nat × Wd} (hx : x ∈ c.net) (ht : x.2.f ≠ liar) : OnS c x.2 x.2.v := by
  obtain ⟨_, _, i, hi, hf, hs⟩ := T.inv.net x hx
  have S := hs (by show (i : Int) ≠ c.liar; rw [hl, ← hf]; exact ht)
  have hk := C.kinds x hx
  refine ⟨hk.2.1, i, hi, hf, fun e => ?_, fun e => S.wish e, fun e => S.prom e, hk.1.1, hk.1.2⟩
  obtain ⟨j, _, jf, j1, j2⟩ := C.net x hx e
  have e : i = j := by omega
  subst e
  exact ⟨j1, j2⟩
/-- How many letters lie there behind an act. -/
theorem do_len {c : Cw} (G : CG c) (a : Ac) : ∃ m : Nat, m ≤ (doC c a).1.net.length ∧ ((a.kind = 3 ∧ (doC c a).2[0]? = some (.int .i64 0)) → (m : Int) = (c.net.length : Int) - 1) ∧ (¬ (a.kind = 3 ∧ (doC c a).2[0]? = some (.int .i64 0)) → m = c.net.length) := by
  by_cases h3 : a.kind = 3
  · by_cases h6 : c.acts = 600
    · have e : doC c a = (c, refused 5) := by unfold doC; rw [if_pos h6]
      rw [e]
      refine ⟨c.net.length, Nat.le_refl _, fun h => ?_, fun _ => rfl⟩
      have h' : some (Value.int .i64 5) = some (.int .i64 0) := h.2
      injection h' with h'
      injection h' with _ h'
      cases h'
    · have e : doC c a = dropC c.more a.n := by unfold doC; rw [if_neg h6, if_neg (by omega), if_neg (by omega), if_pos h3]
      rw [e]
      unfold dropC
      by_cases hw : win a.n 0 ((c.more.net.length : Int) - 1) = true
      · rw [if_pos hw]
        have hw' := win_iff.1 hw
        have hlt : a.n.toNat < c.net.length := by have h1 := hw'.2; have : a.n ≤ (c.net.length : Int) - 1 := h1; omega
        refine ⟨c.net.length - 1, ?_, fun _ => by omega, fun h => absurd ⟨h3, rfl⟩ h⟩
        show c.net.length - 1 ≤ (c.net.eraseIdx a.n.toNat).length
        rw [List.length_eraseIdx_of_lt hlt]
        exact Nat.le_refl _
      · rw [if_neg hw]
        refine ⟨c.net.length, Nat.le_refl _, fun h => ?_, fun _ => rfl⟩
        have h' : some (Value.int .i64 4) = some (.int .i64 0) := h.2
        injection h' with h'
        injection h' with _ h'
        cases h'
  · refine ⟨c.net.length, ?_, fun h => absurd h.1 h3, fun _ => rfl⟩
    unfold doC
    have hh : ∀ d : Cw, d.net.length = c.net.length → CG d → ∀ i v, c.net.length ≤ (hearC d i v).1.net.length := fun d hd Gd i v => by
      unfold hearC
      split
      · have h1 := (sendAll_len i (hearN i (d.nd i) v).words d.net Gd.net).1
        rw [hd] at h1; exact h1
      · rw [hd]; exact Nat.le_refl _
    split
    · exact Nat.le_refl _
    · rename_i h6
      have G1 := G.more h6
      split
      · unfold subC
        split
        · split
          · exact (sendAll_len a.node.toNat (submitN a.node.toNat (c.more.nd a.node.toNat) a.value).words c.more.net G1.net).1
          · exact Nat.le_refl _
        · exact Nat.le_refl _
      · split
        · unfold deliverC
          split
          · split
            · exact hh c.more rfl G1 _ _
            · exact Nat.le_refl _
          · exact Nat.le_refl _
        · split
          · unfold timeC
            split
            · exact (sendAll_len a.node.toNat (timeN a.node.toNat (c.more.nd a.node.toNat)).words c.more.net G1.net).1
            · exact Nat.le_refl _
          · split
            · unfold lieC
              split
              · split
                · split
                  · exact hh c.more rfl G1 _ _
                  · exact Nat.le_refl _
                · exact Nat.le_refl _
              · exact Nat.le_refl _
            · split <;> exact Nat.le_refl _
end Go.Proofs.Ytmmgaonlmpajbab
