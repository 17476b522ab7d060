/-
  The landed package crowd: Do, of every act; what it comes to in plain words; a crowd of good nodes stays one.
-/
import Derived.Test.YtmmgaonlmpajbacCDoAll
namespace Go.Proofs.Ytmmgaonlmpajbac
open Go.RowKit

/-- The reply to what a node did. -/
def didRep (c : Cw) (i : Nat) (a : At) : Array Value := rcells 0 (((sendAll i a.words c.net).length : Int) - (c.net.length : Int)) fun _ => 0
def subC (c : Cw) (i y : Int) : Cw × Array Value :=
  if win i 0 3 = true then (if subCode (c.nd i.toNat) y = 0 then (c.did i.toNat (submitN i.toNat (c.nd i.toNat) y), didRep c i.toNat (submitN i.toNat (c.nd i.toNat) y)) else (c, refused (subCode (c.nd i.toNat) y))) else (c, refused 2)
def timeC (c : Cw) (i : Int) : Cw × Array Value :=
  if win i 0 3 = true then (c.did i.toNat (timeN i.toNat (c.nd i.toNat)), didRep c i.toNat (timeN i.toNat (c.nd i.toNat))) else (c, refused 2)
def readC (c : Cw) (a : Ac) : Cw × Array Value := (c, rcells 0 0 (takeV (toldC c (a.n != 0) a.tell)))
/-- What comes of an act. -/
def doC (c : Cw) (a : Ac) : Cw × Array Value :=
  if c.acts = 600 then (c, refused 5)
  else if a.kind = 1 then subC c.more a.node a.value
  else if a.kind = 2 then deliverC c.more a.n
  else if a.kind = 3 then dropC c.more a.n
  else if a.kind = 4 then timeC c.more a.node
  else if a.kind = 5 then lieC c.more a.node a.word
  else if a.kind = 6 then readC c.more a
  else (c.more, refused 3)

/-- A reply has its form. -/
def IsRep (D : Array Value) : Prop := ∃ code n f, D = rcells code n f
theorem isRep_of (code n : Int) (f : Nat → Int) : IsRep (rcells code n f) := ⟨_, _, _, rfl⟩
theorem isRep_refused (code : Int) : IsRep (refused code) := ⟨_, _, _, rfl⟩
theorem isRep_did (c : Cw) (i : Nat) (a : At) : IsRep (didRep c i a) := ⟨_, _, _, rfl⟩
theorem isRep_hear (c : Cw) (i : Nat) (v : Wd) : IsRep (hearC c i v).2 := by
  obtain ⟨x, y, h⟩ := hearC_rep c i v
  exact ⟨x, y, _, h⟩
theorem isRep_deliver (c : Cw) (n : Int) : IsRep (deliverC c n).2 := by
  unfold deliverC
  split
  · split
    · exact isRep_hear _ _ _
    · exact isRep_refused _
  · exact isRep_refused _
theorem isRep_drop (c : Cw) (n : Int) : IsRep (dropC c n).2 := by
  unfold dropC
  split
  · exact isRep_of 0 0 fun _ => 0
  · exact isRep_refused _
theorem isRep_lie (c : Cw) (i : Int) (v : Wd) : IsRep (lieC c i v).2 := by
  unfold lieC
  split
  · split
    · split
      · exact isRep_hear _ _ _
      · exact isRep_refused _
    · exact isRep_refused _
  · exact isRep_refused _
theorem isRep_sub (c : Cw) (i y : Int) : IsRep (subC c i y).2 := by
  unfold subC
  split
  · split
    · exact isRep_did _ _ _
    · exact isRep_refused _
  · exact isRep_refused _
theorem isRep_time (c : Cw) (i : Int) : IsRep (timeC c i).2 := by
  unfold timeC
  split
  · exact isRep_did _ _ _
  · exact isRep_refused _

theorem did_of {w : World} {g : Nat} {c : Cw} {q : Nat → Value} {nt : Value} {D : Array Value} (H : CwAt w g 70 c q nt) {e : Ending} {w' : World} (h : e = .returned (.agg D) ∧ Below w.heap.size w w') : Did w g nt c D e w' :=
  ⟨h.1, q, nt, H.keep h.2, Touch.below h.2, Next.refl _ _⟩

theorem turn_submits {w : World} {g : Nat} {c : Cw} {q : Nat → Value} {nt : Value} (G : CG c) (H : CwAt w g 70 c q nt) (i y : Int) (b : Nat) (hb : w.cell? ⟨b, 0, none⟩ = some (.int .i64 y)) :
    Calls Try.prog 23 #[.pointer (some ⟨g, 0, none⟩), .int .i64 i, .func (.func 42) #[] #[.pointer (some ⟨b, 0, none⟩)]] w (Did w g nt (subC c i y).1 (subC c i y).2) := by
  unfold subC
  cases hi : win i 0 3
  · rw [if_neg (by simp)]
    exact (turn_range i hi g _ w).mono fun e w' h => did_of H h
  · rw [if_pos rfl]
    have hi' := win_iff.1 hi
    have h4 : i.toNat < 4 := by omega
    have hw := G.nd i.toNat h4
    have ei : (i.toNat : Int) = i := by omega
    by_cases hs : subCode (c.nd i.toNat) y = 0
    · rw [if_pos hs]
      have hy : win y 1 9 = true := by
        cases hy : win y 1 9
        · unfold subCode at hs; rw [hy] at hs; simp at hs
        · rfl
      have h6 : (c.nd i.toNat).queue.length < 6 := by
        unfold subCode at hs
        rw [if_pos hy] at hs
        by_cases h6 : (c.nd i.toNat).queue.length = 6
        · rw [if_pos h6] at hs; cases hs
        · have := hw.good.qlen; omega
      have h1 := turn_submit_yes H i.toNat h4 b y hb _ (submit_whole hw i.toNat hy h6).2 G.net (fun W hW => submit_yes hw.good hw.beyond h4 hy h6 _ W hW)
      rw [ei] at h1
      exact h1
    · rw [if_neg hs]
      have h1 := turn_submit_no H i.toNat h4 b y hb _ hs (fun W hW => submit_no hw.good h4 hs _ W hW)
      rw [ei] at h1
      exact h1.mono fun e w' h => did_of H h
theorem turn_times {w : World} {g : Nat} {c : Cw} {q : Nat → Value} {nt : Value} (G : CG c) (H : CwAt w g 70 c q nt) (i : Int) :
    Calls Try.prog 23 #[.pointer (some ⟨g, 0, none⟩), .int .i64 i, .func (.func 27) #[] #[]] w (Did w g nt (timeC c i).1 (timeC c i).2) := by
  unfold timeC
  cases hi : win i 0 3
  · rw [if_neg (by simp)]
    exact (turn_range i hi g _ w).mono fun e w' h => did_of H h
  · rw [if_pos rfl]
    have hi' := win_iff.1 hi
    have h4 : i.toNat < 4 := by omega
    have hw := G.nd i.toNat h4
    have h1 := turn_time_yes H i.toNat h4 _ (time_whole hw i.toNat).2 G.net (fun W hW => time_yes hw.good hw.beyond h4 _ W hW)
    rw [show (i.toNat : Int) = i by omega] at h1
    exact h1

theorem do_any {w : World} {g : Nat} {c : Cw} {q : Nat → Value} {nt : Value} (G : CG c) (H : CwAt w g 70 c q nt) (a : Ac) :
    Calls Try.prog 11 #[.pointer (some ⟨g, 0, none⟩), .agg (acArr a)] w (Did w g nt (doC c a).1 (doC c a).2) := by
  unfold doC
  by_cases h6 : c.acts = 600
  · rw [if_pos h6]
    exact (do_full H a h6).mono fun e w' h => did_of H h
  · rw [if_neg h6]
    have G1 := G.more h6
    have hlt : c.acts < 600 := by have := G.acts; omega
    by_cases k1 : a.kind = 1
    · rw [if_pos k1]
      obtain ⟨x, y, f, hr⟩ := isRep_sub c.more a.node a.value
      have hT := fun W q nt b (hW : CwAt W g 70 c.more q nt) hb => turn_submits G1 hW a.node a.value b hb
      rw [hr] at hT ⊢
      exact do_submit H a hlt k1 x y f _ hT
    · rw [if_neg k1]
      by_cases k2 : a.kind = 2
      · rw [if_pos k2]
        obtain ⟨x, y, f, hr⟩ := isRep_deliver c.more a.n
        have hT := fun W q nt (hW : CwAt W g 70 c.more q nt) => deliver_any G1 hW a.n
        rw [hr] at hT ⊢
        exact do_deliver H a hlt k2 x y f _ hT
      · rw [if_neg k2]
        by_cases k3 : a.kind = 3
        · rw [if_pos k3]
          obtain ⟨x, y, f, hr⟩ := isRep_drop c.more a.n
          have hT := fun W q nt (hW : CwAt W g 70 c.more q nt) => drop_any G1 hW a.n
          rw [hr] at hT ⊢
          exact do_drop H a hlt k3 x y f _ hT
        · rw [if_neg k3]
          by_cases k4 : a.kind = 4
          · rw [if_pos k4]
            obtain ⟨x, y, f, hr⟩ := isRep_time c.more a.node
            have hT := fun W q nt (hW : CwAt W g 70 c.more q nt) => turn_times G1 hW a.node
            rw [hr] at hT ⊢
            exact do_time H a hlt k4 x y f _ hT
          · rw [if_neg k4]
            by_cases k5 : a.kind = 5
            · rw [if_pos k5]
              obtain ⟨x, y, f, hr⟩ := isRep_lie c.more a.node a.word
              have hT := fun W q nt (hW : CwAt W g 70 c.more q nt) => lie_any G1 hW a.node a.word
              rw [hr] at hT ⊢
              exact do_lie H a hlt k5 x y f _ hT
            · rw [if_neg k5]
              by_cases k6 : a.kind = 6
              · rw [if_pos k6]
                exact do_read H a hlt k6 _ _ _ _ (fun W q nt hW => (read_any G1 hW (a.n != 0) a.tell).mono fun e w' h => did_of hW h)
              · rw [if_neg k6]
                exact do_none H a hlt ⟨k1, k2, k3, k4, k5, k6⟩

/-! ### A crowd of good nodes stays one -/
theorem sendTo_mem (fr : Nat) (w : Wd) (net : List (Nat × Wd)) : ∀ k, k ≤ 4 → ∀ x, x ∈ sendTo fr w net k → x ∈ net ∨ (x.1 < 4 ∧ x.1 ≠ fr ∧ x.2 = w)
  | 0, _, x, hx => Or.inl hx
  | k + 1, hk, x, hx => by
    unfold sendTo at hx
    split at hx
    · rename_i c
      rcases List.mem_append.1 hx with h | h
      · exact sendTo_mem fr w net k (by omega) x h
      · obtain rfl := List.mem_singleton.1 h
        exact Or.inr ⟨by show k < 4; omega, c.1, rfl⟩
    · exact sendTo_mem fr w net k (by omega) x hx
theorem sendAll_mem (fr : Nat) : ∀ (ws : List Wd) (net : List (Nat × Wd)) (x : Nat × Wd), x ∈ sendAll fr ws net → x ∈ net ∨ (x.1 < 4 ∧ x.1 ≠ fr ∧ x.2 ∈ ws)
  | [], net, x, hx => Or.inl hx
  | w :: ws, net, x, hx => by
    have hx' : x ∈ sendAll fr ws (sendTo fr w net 4) := hx
    rcases sendAll_mem fr ws _ x hx' with h | ⟨h1, h2, h3⟩
    · rcases sendTo_mem fr w net 4 (Nat.le_refl _) x h with h | ⟨h1, h2, h3⟩
      · exact Or.inl h
      · exact Or.inr ⟨h1, h2, by rw [h3]; exact List.mem_cons_self ..⟩
    · exact Or.inr ⟨h1, h2, List.mem_cons_of_mem _ h3⟩
theorem CG.did {c : Cw} (G : CG c) {i : Nat} {a : At} (h : Whole a.n) : CG (c.did i a) := by
  refine ⟨fun k hk => ?_, (sendAll_len i a.words c.net G.net).2, fun x hx => ?_, G.acts, G.liar⟩
  · show Whole (if k = i then a.n else c.nd k)
    split
    · exact h
    · exact G.nd k hk
  · rcases sendAll_mem i a.words c.net x hx with h | h
    · exact G.dest x h
    · exact h.1
theorem CG.hear {c : Cw} (G : CG c) {i : Nat} (hi : i < 4) (v : Wd) : CG (hearC c i v).1 := by
  unfold hearC
  split
  · rename_i gv
    exact G.did (hear_whole (G.nd i hi) i gv).1
  · exact G
theorem do_good {c : Cw} (G : CG c) (a : Ac) : CG (doC c a).1 := by
  unfold doC
  split
  · exact G
  · rename_i h6
    have G1 := G.more h6
    split
    · unfold subC
      split
      · rename_i hi
        have hi' := win_iff.1 hi
        split
        · rename_i hs
          have hw := G1.nd a.node.toNat (by omega)
          have hy : win a.value 1 9 = true := by
            cases hy : win a.value 1 9
            · unfold subCode at hs; rw [hy] at hs; simp at hs
            · rfl
          have h6 : (c.more.nd a.node.toNat).queue.length < 6 := by
            unfold subCode at hs
            rw [if_pos hy] at hs
            by_cases h6 : (c.more.nd a.node.toNat).queue.length = 6
            · rw [if_pos h6] at hs; cases hs
            · have := hw.good.qlen; omega
          exact G1.did (submit_whole hw _ hy h6).1
        · exact G1
      · exact G1
    · split
      · unfold deliverC
        split
        · rename_i x hx
          split
          · exact G1.hear (G1.dest x (List.mem_of_getElem? hx)) _
          · exact G1
        · exact G1
      · split
        · unfold dropC
          split
          · refine ⟨G1.nd, ?_, fun x hx => G1.dest x (List.mem_of_mem_eraseIdx hx), G1.acts, G1.liar⟩
            show (c.more.net.eraseIdx _).length ≤ 2000
            have := List.length_eraseIdx_le c.more.net a.n.toNat
            have := G1.net
            omega
          · exact G1
        · split
          · unfold timeC
            split
            · rename_i hi
              have hi' := win_iff.1 hi
              exact G1.did (time_whole (G1.nd a.node.toNat (by omega)) _).1
            · exact G1
          · split
            · unfold lieC
              split
              · split
                · split
                  · rename_i hi
                    have hi' := win_iff.1 hi
                    exact G1.hear (by omega) _
                  · exact G1
                · exact G1
              · exact G1
            · split
              · exact G1
              · exact G1
theorem do_isRep (c : Cw) (a : Ac) : IsRep (doC c a).2 := by
  unfold doC
  split
  · exact isRep_refused _
  · split
    · exact isRep_sub _ _ _
    · split
      · exact isRep_deliver _ _
      · split
        · exact isRep_drop _ _
        · split
          · exact isRep_time _ _
          · split
            · exact isRep_lie _ _ _
            · split
              · exact isRep_of _ _ _
              · exact isRep_refused _
end Go.Proofs.Ytmmgaonlmpajbac
