/-
  Where values come from: of plain crowds.
-/
import Derived.Test.YtmmgaonlmpajbabOrigin
import Derived.Test.YtmmgaonlmpajbabCPlay
namespace Go.Proofs.Ytmmgaonlmpajbab

/-- All values in a crowd are of M. -/
structure OC (M : Int → Prop) (c : Cw) : Prop where
  nd : ∀ i, i < 4 → Org M ⟨c.nd i, []⟩
  net : ∀ x, x ∈ c.net → x.2.k = 1 → M x.2.v
theorem OC.more {M N : Int → Prop} {c : Cw} (h : OC M c) (hm : ∀ v, M v → N v) : OC N c :=
  ⟨fun i hi => ⟨fun v hv => hm _ ((h.nd i hi).queue v hv), fun g r hi' => hm _ ((h.nd i hi).calls g r hi'), fun hv => hm _ ((h.nd i hi).valid hv), fun g hg => hm _ ((h.nd i hi).settled g hg), fun w hw => by cases hw⟩, fun x hx hk => hm _ (h.net x hx hk)⟩
theorem OC.did {M : Int → Prop} {c : Cw} (h : OC M c) {i : Nat} {a : At} (ha : Org M a) : OC M (c.did i a) := by
  refine ⟨fun k hk => ?_, fun x hx hk => ?_⟩
  · show Org M ⟨if k = i then a.n else c.nd k, []⟩
    by_cases e : k = i
    · rw [if_pos e]; exact ⟨ha.queue, ha.calls, ha.valid, ha.settled, fun w hw => by cases hw⟩
    · rw [if_neg e]; exact h.nd k hk
  · have hx' : x ∈ sendAll i a.words c.net := hx
    rcases sendAll_mem i a.words c.net x hx' with c1 | c1
    · exact h.net x c1 hk
    · exact ha.words _ c1.2.2 hk
theorem OC.hear {M : Int → Prop} {c : Cw} (h : OC M c) (G : CG c) {i : Nat} (hi : i < 4) (v : Wd) (hv : v.k = 1 → M v.v) : OC M (hearC c i v).1 := by
  unfold hearC
  split
  · exact h.did (Org.follow (FI.start ((G.nd i hi).good.hear _ v)) ((h.nd i hi).hear _ v hv))
  · exact h
/-- What an act lets in: a value that was submitted, or proposed by the liar. -/
def Added (c : Cw) (a : Ac) (v : Int) : Prop := (doC c a).2[0]? = some (.int .i64 0) ∧ ((a.kind = 1 ∧ v = a.value) ∨ (a.kind = 5 ∧ a.word.k = 1 ∧ v = a.word.v))
theorem org_submit {M : Int → Prop} {who : Nat} {n : Nd} (W : Whole n) (h : Org M ⟨n, []⟩) {y : Int} (hy : win y 1 9 = true) (h6 : n.queue.length < 6) (hm : M y) : Org M (submitN who n y) := by
  have e2 : submitN who n y = if n.height < 4 ∧ n.step = 0 then follow who (enter who ⟨n.push y, []⟩ n.round) else ⟨n.push y, []⟩ := rfl
  have GP : GN (n.push y) := W.good.push (win_iff.1 hy) h6
  have hp : Org M ⟨n.push y, []⟩ := ⟨fun v hv => by
    have hv' : v ∈ n.queue ++ [y] := hv
    rcases List.mem_append.1 hv' with c | c
    · exact h.queue v c
    · have e : v = y := by simpa using c
      rw [e]; exact hm, h.calls, h.valid, h.settled, fun w hw => by cases hw⟩
  rw [e2]
  split
  · exact Org.follow (FI.enter0 (who := who) (n := n.push y) GP) (hp.enter _)
  · exact hp
theorem org_time {M : Int → Prop} {who : Nat} {n : Nd} (W : Whole n) (h : Org M ⟨n, []⟩) : Org M (timeN who n) := by
  have hg := W.good
  have few1 : ∀ a : At, a.words.length ≤ 1 → GN a.n → FI a := fun a hw hg => ⟨hg, by have := mu_le hg.ng; omega⟩
  unfold timeN
  split
  · exact h
  · split
    · exact Org.follow (few1 _ (by simp [tell]) (GN.tell (a := ⟨{ n with step := 1 }, []⟩) ⟨hg.height, hg.round, by show 1 ≤ 2; omega, hg.bd, hg.vd, hg.sheets, hg.low, hg.high, hg.queue, hg.qlen⟩ _ _ _)) (Org.tell (a := ⟨{ n with step := 1 }, []⟩) ⟨h.queue, h.calls, h.valid, h.settled, h.words⟩ _ _ _ (fun hk => absurd hk (by decide)))
    · split
      · split
        · exact Org.follow (few1 _ (by simp [tell]) (GN.tell (a := ⟨{ n with step := 2 }, []⟩) ⟨hg.height, hg.round, by show 2 ≤ 2; omega, hg.bd, hg.vd, hg.sheets, hg.low, hg.high, hg.queue, hg.qlen⟩ _ _ _)) (Org.tell (a := ⟨{ n with step := 2 }, []⟩) ⟨h.queue, h.calls, h.valid, h.settled, h.words⟩ _ _ _ (fun hk => absurd hk (by decide)))
        · exact Org.follow (a := ⟨n, []⟩) (FI.start hg) h
      · split
        · exact Org.follow (few1 _ (by have := enter_len who ⟨n, []⟩ (n.round + 1); simpa using this) (GN.enter (a := ⟨n, []⟩) hg _ (by show n.round ≤ n.round + 1; omega) (by omega))) (Org.enter (a := ⟨n, []⟩) h _)
        · exact Org.follow (a := ⟨n, []⟩) (FI.start hg) h
theorem do_OC {M : Int → Prop} {c : Cw} (G : CG c) (h : OC M c) (a : Ac) : OC (fun v => M v ∨ Added c a v) (doC c a).1 := by
  have hN : ∀ d : Cw, OC M d → OC (fun v => M v ∨ Added c a v) d := fun d hd => hd.more fun _ hv => Or.inl hv
  by_cases h6 : c.acts = 600
  · have e : doC c a = (c, refused 5) := by unfold doC; rw [if_pos h6]
    rw [e]; exact hN _ h
  · have G1 := G.more h6
    have h1 : OC M c.more := ⟨h.nd, h.net⟩
    have hAdd : ∀ v, (doC c a).2[0]? = some (.int .i64 0) → ((a.kind = 1 ∧ v = a.value) ∨ (a.kind = 5 ∧ a.word.k = 1 ∧ v = a.word.v)) → Added c a v := fun v x y => ⟨x, y⟩
    generalize hA : Added c a = A at hAdd hN ⊢
    clear hA
    have hM : OC (fun v => M v ∨ A v) c.more := hN _ h1
    unfold doC at hAdd ⊢
    rw [if_neg h6] at hAdd ⊢
    by_cases k1 : a.kind = 1
    · rw [if_pos k1] at hAdd ⊢
      unfold subC at hAdd ⊢
      by_cases hi : win a.node 0 3 = true
      · rw [if_pos hi] at hAdd ⊢
        by_cases hs : subCode (c.more.nd a.node.toNat) a.value = 0
        · rw [if_pos hs] at hAdd ⊢
          have hi' := win_iff.1 hi
          have h4 : a.node.toNat < 4 := by omega
          have hw := G1.nd a.node.toNat h4
          have hy : win a.value 1 9 = true := by
            cases hy : win a.value 1 9
            · unfold subCode at hs; rw [hy] at hs; simp at hs
            · rfl
          have hl : (c.more.nd a.node.toNat).queue.length < 6 := by
            unfold subCode at hs
            rw [if_pos hy] at hs
            by_cases hl : (c.more.nd a.node.toNat).queue.length = 6
            · rw [if_pos hl] at hs; cases hs
            · have := hw.good.qlen; omega
          exact hM.did (org_submit hw (hM.nd _ h4) hy hl (Or.inr (hAdd a.value rfl (Or.inl ⟨k1, rfl⟩))))
        · rw [if_neg hs]; exact hM
      · rw [if_neg hi]; exact hM
    · rw [if_neg k1] at hAdd ⊢
      by_cases k2 : a.kind = 2
      · rw [if_pos k2]
        unfold deliverC
        split
        · rename_i x hx
          split
          · have hm := List.mem_of_getElem? hx
            exact hM.hear G1 (G1.dest x hm) x.2 (fun hk => hM.net x hm hk)
          · exact hM
        · exact hM
      · rw [if_neg k2] at hAdd ⊢
        by_cases k3 : a.kind = 3
        · rw [if_pos k3]
          unfold dropC
          split
          · exact ⟨hM.nd, fun x hx => hM.net x (List.mem_of_mem_eraseIdx hx)⟩
          · exact hM
        · rw [if_neg k3] at hAdd ⊢
          by_cases k4 : a.kind = 4
          · rw [if_pos k4]
            unfold timeC
            split
            · rename_i hi
              have hi' := win_iff.1 hi
              have h4 : a.node.toNat < 4 := by omega
              exact hM.did (org_time (G1.nd _ h4) (hM.nd _ h4))
            · exact hM
          · rw [if_neg k4] at hAdd ⊢
            by_cases k5 : a.kind = 5
            · rw [if_pos k5] at hAdd ⊢
              unfold lieC at hAdd ⊢
              by_cases g : goodC a.word.k a.word.f a.word.h a.word.r a.word.v a.word.x = 0
              · rw [if_pos g] at hAdd ⊢
                by_cases f : a.word.f = c.more.liar
                · rw [if_pos f] at hAdd ⊢
                  by_cases hi : win a.node 0 3 = true
                  · rw [if_pos hi] at hAdd ⊢
                    have hi' := win_iff.1 hi
                    refine hM.hear G1 (by omega) a.word (fun hk => Or.inr (hAdd a.word.v ?_ (Or.inr ⟨k5, hk, rfl⟩)))
                    unfold hearC
                    rw [if_pos g]
                    rfl
                  · rw [if_neg hi]; exact hM
                · rw [if_neg f]; exact hM
              · rw [if_neg g]; exact hM
            · rw [if_neg k5]
              split <;> exact hM
end Go.Proofs.Ytmmgaonlmpajbab
