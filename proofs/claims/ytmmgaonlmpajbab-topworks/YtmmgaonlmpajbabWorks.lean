/-
  One value, no lies, no time: what a node does with words of that one value (plain nodes).
-/
import Derived.Test.YtmmgaonlmpajbabPlain4
namespace Go.Proofs.Ytmmgaonlmpajbab

def wW (i : Nat) (v : Int) : Wd := ⟨2, (i : Int), 0, 0, v, 0⟩
def wR (i : Nat) (v : Int) : Wd := ⟨3, (i : Int), 0, 0, v, 0⟩
def wP (v : Int) : Wd := ⟨1, 0, 0, 0, v, -1⟩
theorem wW_good {i : Nat} {v : Int} (hi : i < 4) (hv : 1 ≤ v ∧ v ≤ 9) : (wW i v).good := by
  unfold Wd.good wW goodC inb win
  have h1 : (0 : Int) ≤ (i : Int) ∧ (i : Int) ≤ 3 := by omega
  have h2 : (0 : Int) ≤ v ∧ v ≤ 9 := by omega
  simp [h1, h2]
theorem wR_good {i : Nat} {v : Int} (hi : i < 4) (hv : 1 ≤ v ∧ v ≤ 9) : (wR i v).good := by
  unfold Wd.good wR goodC inb win
  have h1 : (0 : Int) ≤ (i : Int) ∧ (i : Int) ≤ 3 := by omega
  have h2 : (0 : Int) ≤ v ∧ v ≤ 9 := by omega
  simp [h1, h2]
theorem wP_good {v : Int} (hv : 1 ≤ v ∧ v ≤ 9) : (wP v).good := by
  unfold Wd.good wP goodC inb win
  simp [hv]

/-- A sheet on which all speak of one value, in the first round. -/
structure Cl (v : Int) (S : Sh) : Prop where
  is : ∀ r, r ≠ 0 → S.is r = false
  wi : ∀ r k, r ≠ 0 → S.wi r k = 0
  pr : ∀ r k, r ≠ 0 → S.pr r k = 0
  val : S.is 0 = true → S.val 0 = v ∧ S.vld 0 = -1
  w0 : ∀ k, S.wi 0 k = 0 ∨ S.wi 0 k = 1 + v
  p0 : ∀ k, S.pr 0 k = 0 ∨ S.pr 0 k = 1 + v
theorem Cl.call {v : Int} {S : Sh} (hv : 1 ≤ v ∧ v ≤ 9) (h : Cl v S) : Cl v (hearW S (wP v)) ∧ (hearW S (wP v)).is 0 = true ∧ (hearW S (wP v)).wi = S.wi ∧ (hearW S (wP v)).pr = S.pr := by
  rw [hear_call S (wP v) (wP_good hv) rfl]
  split
  · refine ⟨⟨fun r hr => ?_, h.wi, h.pr, fun _ => ?_, h.w0, h.p0⟩, ?_, rfl, rfl⟩
    · show (if r = 0 then true else S.is r) = false
      rw [if_neg hr]; exact h.is r hr
    · show (if 0 = 0 then v else S.val 0) = v ∧ (if 0 = 0 then (-1 : Int) else S.vld 0) = -1
      exact ⟨if_pos rfl, if_pos rfl⟩
    · show (if 0 = 0 then true else S.is 0) = true
      exact if_pos rfl
  · rename_i c
    refine ⟨h, ?_, rfl, rfl⟩
    cases e : S.is 0
    · exact absurd ⟨rfl, e⟩ c
    · rfl
theorem Cl.wish {v : Int} {S : Sh} (hv : 1 ≤ v ∧ v ≤ 9) (h : Cl v S) {i : Nat} (hi : i < 4) : Cl v (hearW S (wW i v)) ∧ (hearW S (wW i v)).wi 0 i = 1 + v ∧ (hearW S (wW i v)).is = S.is ∧ (hearW S (wW i v)).pr = S.pr ∧ ∀ k, S.wi 0 k ≠ 0 → (hearW S (wW i v)).wi 0 k = S.wi 0 k := by
  rw [hear_wish S (wW i v) (wW_good hi hv) rfl]
  have ei : (wW i v).f.toNat = i := by show ((i : Int)).toNat = i; omega
  have er : (wW i v).r.toNat = 0 := rfl
  rw [ei, er]
  split
  · rename_i c
    refine ⟨⟨h.is, fun r k hr => ?_, h.pr, h.val, fun k => ?_, h.p0⟩, ?_, rfl, rfl, fun k hk => ?_⟩
    · show (if r = 0 ∧ k = i then 1 + v else S.wi r k) = 0
      rw [if_neg (fun x => hr x.1)]; exact h.wi r k hr
    · show (if 0 = 0 ∧ k = i then 1 + v else S.wi 0 k) = 0 ∨ (if 0 = 0 ∧ k = i then 1 + v else S.wi 0 k) = 1 + v
      split
      · exact Or.inr rfl
      · exact h.w0 k
    · exact if_pos ⟨rfl, rfl⟩
    · show (if 0 = 0 ∧ k = i then 1 + v else S.wi 0 k) = S.wi 0 k
      rw [if_neg]
      rintro ⟨_, rfl⟩
      exact hk c
  · rename_i c
    refine ⟨h, ?_, rfl, rfl, fun _ _ => rfl⟩
    rcases h.w0 i with e | e
    · exact absurd e c
    · exact e
theorem Cl.promise {v : Int} {S : Sh} (hv : 1 ≤ v ∧ v ≤ 9) (h : Cl v S) {i : Nat} (hi : i < 4) : Cl v (hearW S (wR i v)) ∧ (hearW S (wR i v)).pr 0 i = 1 + v ∧ (hearW S (wR i v)).is = S.is ∧ (hearW S (wR i v)).wi = S.wi ∧ (∀ k, k ≠ i → (hearW S (wR i v)).pr 0 k = S.pr 0 k) ∧ ∀ k, S.pr 0 k ≠ 0 → (hearW S (wR i v)).pr 0 k = S.pr 0 k := by
  rw [hear_promise S (wR i v) (wR_good hi hv) rfl]
  have ei : (wR i v).f.toNat = i := by show ((i : Int)).toNat = i; omega
  have er : (wR i v).r.toNat = 0 := rfl
  rw [ei, er]
  split
  · rename_i c
    refine ⟨⟨h.is, h.wi, fun r k hr => ?_, h.val, h.w0, fun k => ?_⟩, ?_, rfl, rfl, fun k hk => ?_, fun k hk => ?_⟩
    · show (if r = 0 ∧ k = i then 1 + v else S.pr r k) = 0
      rw [if_neg (fun x => hr x.1)]; exact h.pr r k hr
    · show (if 0 = 0 ∧ k = i then 1 + v else S.pr 0 k) = 0 ∨ (if 0 = 0 ∧ k = i then 1 + v else S.pr 0 k) = 1 + v
      split
      · exact Or.inr rfl
      · exact h.p0 k
    · exact if_pos ⟨rfl, rfl⟩
    · exact if_neg fun x => hk x.2
    · show (if 0 = 0 ∧ k = i then 1 + v else S.pr 0 k) = S.pr 0 k
      rw [if_neg]
      rintro ⟨_, rfl⟩
      exact hk c
  · rename_i c
    refine ⟨h, ?_, rfl, rfl, fun _ _ => rfl, fun _ _ => rfl⟩
    rcases h.p0 i with e | e
    · exact absurd e c
    · exact e
/-- An empty sheet. -/
structure Em (S : Sh) : Prop where
  is : ∀ r, S.is r = false
  wi : ∀ r k, S.wi r k = 0
  pr : ∀ r k, S.pr r k = 0
theorem heardN_zero {S : Sh} {r : Nat} (hw : ∀ k, S.wi r k = 0) (hp : ∀ k, S.pr r k = 0) : heardN S (r : Int) = 0 := by
  unfold heardN
  split
  · have hc : ∀ k, cnt S ((r : Int)).toNat k = 0 := fun k => by
      have e : ((r : Int)).toNat = r := by omega
      unfold cnt
      rw [e, hw, hp]; simp
    show (((0 + cnt S _ 0) + cnt S _ 1) + cnt S _ 2) + cnt S _ 3 = 0
    rw [hc, hc, hc, hc]; rfl
  · rfl
theorem farW_none {S : Sh} (hw : ∀ r k, r ≠ 0 → S.wi r k = 0) (hp : ∀ r k, r ≠ 0 → S.pr r k = 0) : farRound S 0 = none := by
  unfold farRound
  rw [List.find?_eq_none]
  intro r _ h
  simp only [Bool.and_eq_true, decide_eq_true_eq] at h
  have := heardN_zero (S := S) (r := r) (fun k => hw r k (by omega)) (fun k => hp r k (by omega))
  omega
theorem first_zero {v : Int} {S : Sh} (h : Cl v S) {r : Nat} (e : firstSettled S = some r) : r = 0 ∧ S.is 0 = true ∧ 3 ≤ cntV (S.pr 0) v := by
  have := (first_is e).2
  unfold settles at this
  simp only [Bool.and_eq_true, decide_eq_true_eq] at this
  by_cases hr : r = 0
  · subst hr
    rw [(h.val this.1).1] at this
    exact ⟨rfl, this.1, this.2⟩
  · rw [h.is r hr] at this; cases this.1
theorem first_em {S : Sh} (h : Em S) : firstSettled S = none := by
  cases e : firstSettled S with
  | none => rfl
  | some r =>
    have := (first_is e).2
    unfold settles at this
    rw [h.is r] at this; cases this
theorem cnt_none {v : Int} {S : Sh} (hv : 1 ≤ v) (h : Cl v S) : cntV (S.wi 0) 0 = 0 := by
  have key : ∀ n, cntTo (S.wi 0) (fun x => x == 0) n = 0 := by
    intro n
    induction n with
    | zero => rfl
    | succ n ih =>
      show cntTo (S.wi 0) (fun x => x == 0) n + (if 1 ≤ S.wi 0 n ∧ (S.wi 0 n - 1 == 0) = true then 1 else 0) = 0
      rw [ih, if_neg]
      · rfl
      · rintro ⟨h1, h2⟩
        have h2' : S.wi 0 n - 1 = 0 := by simpa using h2
        rcases h.w0 n with e | e <;> omega
  exact key 4

/-- How much a node has said. -/
def toldN (n : Nd) : Nat := if n.height = 0 then n.step else 2
/-- A word of that one value, said by a node. -/
def CWo (v : Int) (who : Nat) (w : Wd) : Prop := w = wW who v ∨ w = wR who v ∨ (who = 0 ∧ w = wP v)
/-- How a node stands where all speak of one value. -/
structure WN (v : Int) (who : Nat) (n : Nd) : Prop where
  hgt : n.height ≤ 1
  rnd : n.round = 0
  c0 : Cl v (n.heard 0)
  c1 : Em (n.heard 1)
  que : ∀ q, q ∈ n.queue → q = v
  st : n.step ≤ 2
  bnd : n.height = 0 → n.step = 0 → n.boundIn = -1
  own2 : n.height = 0 → 1 ≤ n.step → (n.heard 0).wi 0 who = 1 + v
  own3 : n.height = 0 → n.step = 2 → (n.heard 0).pr 0 who = 1 + v
  seen : n.height = 0 → n.seen 0 = true → n.step = 2
  done : n.height = 1 → n.step = 0 ∧ n.settled 0 = v ∧ 3 ≤ cntV ((n.heard 0).pr 0) v
/-- At work, since it was n0. -/
structure WA (v : Int) (who : Nat) (n0 : Nd) (m : Nat) (a : At) : Prop where
  nd : WN v who a.n
  oth : ∀ k, k ≠ who → (a.n.heard 0).pr 0 k = (n0.heard 0).pr 0 k
  keep : (n0.heard 0).pr 0 who ≠ 0 → (a.n.heard 0).pr 0 who ≠ 0
  said3 : (a.n.heard 0).pr 0 who ≠ 0 → (n0.heard 0).pr 0 who ≠ 0 ∨ wR who v ∈ a.words
  back3 : wR who v ∈ a.words → (a.n.heard 0).pr 0 who ≠ 0
  said2 : a.n.height = 0 → 1 ≤ a.n.step → (n0.height = 0 ∧ 1 ≤ n0.step) ∨ wW who v ∈ a.words
  is : (n0.heard 0).is 0 = true → (a.n.heard 0).is 0 = true
  cnt : a.words.length + toldN n0 ≤ toldN a.n + m
  mono : toldN n0 ≤ toldN a.n
  words : ∀ w, w ∈ a.words → CWo v who w

theorem tell_at {who : Nat} {a : At} (h0 : a.n.height = 0) (hr : a.n.round = 0) (k v x : Int) :
    tell who a k v x = ⟨{ a.n with heard := fun g => if g = 0 then hearW (a.n.heard 0) ⟨k, (who : Int), 0, 0, v, x⟩ else a.n.heard g }, a.words ++ [⟨k, (who : Int), 0, 0, v, x⟩]⟩ := by
  obtain ⟨n, ws⟩ := a
  obtain ⟨height, round, step, bd, bi, vd, vi, seen, heard, settled, queue⟩ := n
  have h0' : height = 0 := h0
  have hr' : round = 0 := hr
  subst h0' hr'
  rfl
theorem enter_at {who : Nat} {a : At} (_h1 : a.n.height = 1) (_c1 : (a.n.heard 1).is 0 = false) (hv : a.n.validIn = -1) (hq : a.n.queue = []) : enter who a 0 = ⟨{ a.n with round := 0, step := 0 }, a.words⟩ := by
  unfold enter
  simp only
  split
  · rfl
  · rw [if_neg (by rw [hv]; omega), hq]
theorem settle_at {v : Int} {who : Nat} {a : At} (N : WN v who a.n) (h0 : a.n.height = 0) (i0 : (a.n.heard 0).is 0 = true) :
    settleAt who a 0 = ⟨{ a.n with settled := fun g => if g = 0 then v else a.n.settled g, queue := [], height := 1, bound := 0, boundIn := -1, valid := 0, validIn := -1, seen := fun _ => false, round := 0, step := 0 }, a.words⟩ := by
  have hs : a.n.sheet = a.n.heard 0 := by unfold Nd.sheet; rw [h0]
  have hq : a.n.queue.filter (fun q => q != v) = [] := by
    rw [List.filter_eq_nil_iff]
    intro q hq
    rw [N.que q hq]; simp
  unfold settleAt
  simp only
  rw [hs, (N.c0.val i0).1, hq, h0]
  exact enter_at rfl (N.c1.is 0) rfl rfl

set_option maxHeartbeats 1000000 in
theorem one_WA {v : Int} (hv : 1 ≤ v ∧ v ≤ 9) {who : Nat} (hw : who < 4) {n0 : Nd} (hn0 : toldN n0 ≤ 2) {m : Nat} {a b : At} (A : WA v who n0 m a) (e : one who a = some b) : WA v who n0 m b := by
  have N := A.nd
  unfold one at e
  rw [if_neg (by have := N.hgt; omega)] at e
  by_cases h0 : a.n.height = 0
  · have hs : a.n.sheet = a.n.heard 0 := by unfold Nd.sheet; rw [h0]
    rw [hs, N.rnd, farW_none N.c0.wi N.c0.pr] at e
    have ht : toldN a.n = a.n.step := if_pos h0
    cases ef : firstSettled (a.n.heard 0) with
    | some r =>
      rw [ef] at e
      obtain ⟨rfl, i0, h3⟩ := first_zero N.c0 ef
      simp only [Option.some.injEq] at e
      rw [settle_at N h0 i0] at e
      subst e
      have := N.st
      refine ⟨⟨Nat.le_refl 1, rfl, N.c0, N.c1, fun q hq => absurd hq (List.not_mem_nil), Nat.zero_le 2, fun h => absurd h (by show ¬ 1 = 0; omega), fun h => absurd h (by show ¬ 1 = 0; omega), fun h => absurd h (by show ¬ 1 = 0; omega), fun h => absurd h (by show ¬ 1 = 0; omega), fun _ => ⟨rfl, (show (if 0 = 0 then v else a.n.settled 0) = v from if_pos rfl), h3⟩⟩, A.oth, A.keep, A.said3, A.back3, fun h => absurd h (by show ¬ 1 = 0; omega), A.is, ?_, hn0, A.words⟩
      have hc := A.cnt
      rw [ht] at hc
      show a.words.length + toldN n0 ≤ 2 + m
      omega
    | none =>
      rw [ef] at e
      simp only at e
      by_cases hst : a.n.step = 0
      · rw [if_pos hst] at e
        unfold wishes at e
        simp only at e
        rw [hs, N.rnd] at e
        split at e
        · cases e
        · rename_i c
          have i0 : (a.n.heard 0).is 0 = true := by
            cases i0 : (a.n.heard 0).is 0
            · exact absurd (Or.inl i0) c
            · rfl
          have et := tell_at (who := who) (a := ⟨{ a.n with round := 0, step := 1 }, a.words⟩) h0 rfl 2 v 0
          rw [if_pos (Or.inl (by rw [N.bnd h0 hst, (N.c0.val i0).2]; omega)), (N.c0.val i0).1] at e
          replace e := e.symm.trans (congrArg some et)
          clear et
          obtain rfl := Option.some.inj e
          clear e
          obtain ⟨k1, k2, k3, k4, k5⟩ := N.c0.wish hv hw
          refine ⟨⟨N.hgt, rfl, k1, N.c1, N.que, by show 1 ≤ 2; omega, fun _ h => absurd h (by show ¬ 1 = 0; omega), fun _ _ => k2, fun _ h => absurd h (by show ¬ 1 = 2; omega), fun _ h => ?_, fun h => absurd h (by show ¬ a.n.height = 1; omega)⟩, fun k hk => ?_, fun h => ?_, fun h => ?_, fun h => ?_, fun _ _ => Or.inr ?_, fun h => ?_, ?_, ?_, fun w hw => ?_⟩
          · have := N.seen h0 h; omega
          · show (hearW (a.n.heard 0) (wW who v)).pr 0 k = _
            rw [k4]; exact A.oth k hk
          · show (hearW (a.n.heard 0) (wW who v)).pr 0 who ≠ 0
            rw [k4]; exact A.keep h
          · have h' : (hearW (a.n.heard 0) (wW who v)).pr 0 who ≠ 0 := h
            rw [k4] at h'
            rcases A.said3 h' with c | c
            · exact Or.inl c
            · exact Or.inr (List.mem_append_left _ c)
          · show (hearW (a.n.heard 0) (wW who v)).pr 0 who ≠ 0
            rw [k4]
            rcases List.mem_append.1 h with c | c
            · exact A.back3 c
            · have c' : wR who v = wW who v := List.mem_singleton.1 c
              injection c' with c' _
              omega
          · exact List.mem_append_right _ (List.mem_singleton.2 rfl)
          · show (hearW (a.n.heard 0) (wW who v)).is 0 = true
            rw [k3]; exact A.is h
          · have hc := A.cnt
            rw [ht, hst] at hc
            have e2 : ∀ f, toldN { a.n with round := 0, step := 1, heard := f } = 1 := fun _ => if_pos h0
            show (a.words ++ [_]).length + toldN n0 ≤ _ + m
            rw [e2, List.length_append]
            simp
            omega
          · have hc := A.mono
            rw [ht, hst] at hc
            have e2 : ∀ f, toldN { a.n with round := 0, step := 1, heard := f } = 1 := fun _ => if_pos h0
            rw [e2]
            omega
          · rcases List.mem_append.1 hw with c | c
            · exact A.words w c
            · exact Or.inl (List.mem_singleton.1 c)
      · rw [if_neg hst] at e
        unfold promises at e
        simp only at e
        rw [hs, N.rnd] at e
        rw [if_neg (fun x => by have := cnt_none hv.1 N.c0; omega)] at e
        split at e
        · rename_i c
          obtain ⟨i0, s0, w3⟩ := c
          by_cases h1 : a.n.step = 1
          · rw [if_pos h1, (N.c0.val i0).1] at e
            have et := fun f vi bi => tell_at (who := who) (a := ⟨{ a.n with round := 0, seen := f, valid := v, validIn := vi, bound := v, boundIn := bi, step := 2 }, a.words⟩) h0 rfl 3 v 0
            replace e := e.symm.trans (congrArg some (et _ _ _))
            clear et
            obtain rfl := Option.some.inj e
            clear e
            obtain ⟨k1, k2, k3, k4, k5, k6⟩ := N.c0.promise hv hw
            refine ⟨⟨N.hgt, rfl, k1, N.c1, N.que, by show 2 ≤ 2; omega, fun _ h => absurd h (by show ¬ 2 = 0; omega), fun _ _ => ?_, fun _ _ => k2, fun _ _ => rfl, fun h => absurd h (by show ¬ a.n.height = 1; omega)⟩, fun k hk => ?_, fun h => ?_, fun h => Or.inr ?_, fun h => ?_, fun _ _ => ?_, fun h => ?_, ?_, ?_, fun w hw => ?_⟩
            · show (hearW (a.n.heard 0) (wR who v)).wi 0 who = 1 + v
              rw [k4]; exact N.own2 h0 (by omega)
            · show (hearW (a.n.heard 0) (wR who v)).pr 0 k = _
              rw [k5 k hk]; exact A.oth k hk
            · show (hearW (a.n.heard 0) (wR who v)).pr 0 who ≠ 0
              rw [k2]; omega
            · exact List.mem_append_right _ (List.mem_singleton.2 rfl)
            · show (hearW (a.n.heard 0) (wR who v)).pr 0 who ≠ 0
              rw [k2]; omega
            · rcases A.said2 h0 (by omega) with c | c
              · exact Or.inl c
              · exact Or.inr (List.mem_append_left _ c)
            · show (hearW (a.n.heard 0) (wR who v)).is 0 = true
              rw [k3]; exact A.is h
            · have hc := A.cnt
              rw [ht, h1] at hc
              have e2 : ∀ f g b bi vd vi, toldN { a.n with round := 0, seen := f, bound := b, boundIn := bi, valid := vd, validIn := vi, step := 2, heard := g } = 2 := fun _ _ _ _ _ _ => if_pos h0
              show (a.words ++ [_]).length + toldN n0 ≤ _ + m
              rw [e2, List.length_append]
              simp
              omega
            · have e2 : ∀ f g b bi vd vi, toldN { a.n with round := 0, seen := f, bound := b, boundIn := bi, valid := vd, validIn := vi, step := 2, heard := g } = 2 := fun _ _ _ _ _ _ => if_pos h0
              rw [e2]; exact hn0
            · rcases List.mem_append.1 hw with c | c
              · exact A.words w c
              · exact Or.inr (Or.inl (List.mem_singleton.1 c))
          · rw [if_neg h1] at e
            injection e with e
            subst e
            have h2 : a.n.step = 2 := by have := N.st; omega
            refine ⟨⟨N.hgt, rfl, N.c0, N.c1, N.que, N.st, fun _ h => absurd h hst, N.own2, N.own3, fun _ _ => h2, N.done⟩, A.oth, A.keep, A.said3, A.back3, A.said2, A.is, ?_, A.mono, A.words⟩
            have hc := A.cnt
            have e2 : ∀ f vd vi, toldN { a.n with round := 0, seen := f, valid := vd, validIn := vi } = toldN a.n := fun _ _ _ => rfl
            show a.words.length + toldN n0 ≤ _ + m
            rw [e2]; exact hc
        · cases e
  · have h1 : a.n.height = 1 := by have := N.hgt; omega
    have hs : a.n.sheet = a.n.heard 1 := by unfold Nd.sheet; rw [h1]
    rw [hs, N.rnd, first_em N.c1, farW_none (fun r k _ => N.c1.wi r k) (fun r k _ => N.c1.pr r k)] at e
    simp only at e
    rw [if_pos (N.done h1).1] at e
    unfold wishes at e
    simp only at e
    rw [hs, N.rnd, if_pos (Or.inl (N.c1.is 0))] at e
    cases e
theorem follow_WA {v : Int} (hv : 1 ≤ v ∧ v ≤ 9) {who : Nat} (hw : who < 4) {n0 : Nd} (hn0 : toldN n0 ≤ 2) {m : Nat} {a : At} (F : FI a) (A : WA v who n0 m a) : WA v who n0 m (follow who a) :=
  follow_keeps (P := WA v who n0 m) (fun _ _ _ hp e => one_WA hv hw hn0 hp e) _ a F (Nat.le_refl _) A
theorem WN.told {v : Int} {who : Nat} {n : Nd} (h : WN v who n) : toldN n ≤ 2 := by
  unfold toldN
  have := h.st
  split <;> omega

/-- Words that a node may hear. -/
def CW (v : Int) (w : Wd) : Prop := ∃ i, i < 4 ∧ CWo v i w
theorem CW.good {v : Int} (hv : 1 ≤ v ∧ v ≤ 9) {w : Wd} (h : CW v w) : w.good ∧ w.h = 0 := by
  obtain ⟨i, hi, h⟩ := h
  rcases h with rfl | rfl | ⟨_, rfl⟩
  · exact ⟨wW_good hi hv, rfl⟩
  · exact ⟨wR_good hi hv, rfl⟩
  · exact ⟨wP_good hv, rfl⟩
theorem cnt_more {V V' : Nat → Int} {v : Int} (h : ∀ k, k < 4 → V k = 1 + v → V' k = 1 + v) (_hv : 0 ≤ v) : cntV V v ≤ cntV V' v := by
  have key : ∀ n, n ≤ 4 → cntTo V (fun x => x == v) n ≤ cntTo V' (fun x => x == v) n := by
    intro n
    induction n with
    | zero => intro _; exact Int.le_refl _
    | succ n ih =>
      intro hn
      have ih' := ih (by omega)
      show cntTo V (fun x => x == v) n + (if 1 ≤ V n ∧ (V n - 1 == v) = true then 1 else 0) ≤ cntTo V' (fun x => x == v) n + (if 1 ≤ V' n ∧ (V' n - 1 == v) = true then 1 else 0)
      by_cases c : 1 ≤ V n ∧ (V n - 1 == v) = true
      · have c2 : V n - 1 = v := by simpa using c.2
        have c3 := h n (by omega) (by omega)
        rw [if_pos c, if_pos ⟨by omega, by simp; omega⟩]
        omega
      · rw [if_neg c]
        split <;> omega
  exact key 4 (Nat.le_refl _)
theorem cnt_all {V : Nat → Int} {v : Int} (hv : 0 ≤ v) (h : ∀ k, k < 4 → V k = 1 + v) : cntV V v = 4 := by
  show (((0 + (if 1 ≤ V 0 ∧ (V 0 - 1 == v) = true then 1 else 0)) + (if 1 ≤ V 1 ∧ (V 1 - 1 == v) = true then 1 else 0)) + (if 1 ≤ V 2 ∧ (V 2 - 1 == v) = true then 1 else 0)) + (if 1 ≤ V 3 ∧ (V 3 - 1 == v) = true then 1 else 0) = (4 : Int)
  have c : ∀ k, k < 4 → 1 ≤ V k ∧ (V k - 1 == v) = true := fun k hk => by
    have := h k hk
    exact ⟨by omega, by simp; omega⟩
  rw [if_pos (c 0 (by omega)), if_pos (c 1 (by omega)), if_pos (c 2 (by omega)), if_pos (c 3 (by omega))]
  rfl
/-- The node behind a word, ahead of what follows. -/
theorem hear_WN {v : Int} (hv : 1 ≤ v ∧ v ≤ 9) {who : Nat} {n : Nd} (N : WN v who n) {w : Wd} (hw : CW v w) :
    WN v who (n.setSheet 0 (hearW (n.heard 0) w)) ∧ (∀ k, (n.heard 0).pr 0 k ≠ 0 → (hearW (n.heard 0) w).pr 0 k ≠ 0) ∧ (∀ k, (hearW (n.heard 0) w).pr 0 k ≠ 0 → (n.heard 0).pr 0 k ≠ 0 ∨ w = wR k v) ∧ ((n.heard 0).is 0 = true → (hearW (n.heard 0) w).is 0 = true) := by
  have key : Cl v (hearW (n.heard 0) w) ∧ (∀ k, (n.heard 0).wi 0 k ≠ 0 → (hearW (n.heard 0) w).wi 0 k = (n.heard 0).wi 0 k) ∧ (∀ k, (n.heard 0).pr 0 k ≠ 0 → (hearW (n.heard 0) w).pr 0 k = (n.heard 0).pr 0 k) ∧ (∀ k, (hearW (n.heard 0) w).pr 0 k ≠ 0 → (n.heard 0).pr 0 k ≠ 0 ∨ w = wR k v) ∧ ((n.heard 0).is 0 = true → (hearW (n.heard 0) w).is 0 = true) := by
    obtain ⟨i, hi, h⟩ := hw
    rcases h with rfl | rfl | ⟨_, rfl⟩
    · obtain ⟨k1, k2, k3, k4, k5⟩ := N.c0.wish hv hi
      exact ⟨k1, k5, fun k _ => by rw [k4], fun k h => Or.inl (by rw [k4] at h; exact h), fun h => by rw [k3]; exact h⟩
    · obtain ⟨k1, k2, k3, k4, k5, k6⟩ := N.c0.promise hv hi
      refine ⟨k1, fun k _ => by rw [k4], k6, fun k h => ?_, fun h => by rw [k3]; exact h⟩
      by_cases e : k = i
      · subst e; exact Or.inr rfl
      · rw [k5 k e] at h; exact Or.inl h
    · obtain ⟨k1, k2, k3, k4⟩ := N.c0.call hv
      exact ⟨k1, fun k _ => by rw [k3], fun k _ => by rw [k4], fun k h => Or.inl (by rw [k4] at h; exact h), fun _ => k2⟩
  obtain ⟨k1, k2, k3, k4, k5⟩ := key
  refine ⟨⟨N.hgt, N.rnd, k1, N.c1, N.que, N.st, N.bnd, fun a b => ?_, fun a b => ?_, N.seen, fun a => ?_⟩, fun k h => by rw [k3 k h]; exact h, k4, k5⟩
  · show (hearW (n.heard 0) w).wi 0 who = 1 + v
    have := N.own2 a b
    rw [k2 who (by omega)]; exact this
  · show (hearW (n.heard 0) w).pr 0 who = 1 + v
    have := N.own3 a b
    rw [k3 who (by omega)]; exact this
  · obtain ⟨d1, d2, d3⟩ := N.done a
    refine ⟨d1, d2, ?_⟩
    show 3 ≤ cntV ((hearW (n.heard 0) w).pr 0) v
    have := cnt_more (V := (n.heard 0).pr 0) (V' := (hearW (n.heard 0) w).pr 0) (v := v) (fun k _ h => by rw [k3 k (by omega)]; exact h) (by omega)
    omega
theorem start_WA {v : Int} {who : Nat} {n : Nd} (N : WN v who n) : WA v who n 0 ⟨n, []⟩ :=
  ⟨N, fun _ _ => rfl, fun h => h, fun h => Or.inl h, fun h => absurd h (List.not_mem_nil), fun a b => Or.inl ⟨a, b⟩, fun h => h, by show 0 + toldN n ≤ toldN n + 0; omega, Nat.le_refl _, fun w h => absurd h (List.not_mem_nil)⟩
/-- Where nothing follows any more. -/
theorem none_WN {v : Int} (hv : 1 ≤ v ∧ v ≤ 9) {who : Nat} {n : Nd} (N : WN v who n) (e : one who ⟨n, []⟩ = none) (h0 : n.height = 0) (i0 : (n.heard 0).is 0 = true) :
    cntV ((n.heard 0).pr 0) v < 3 ∧ 1 ≤ n.step ∧ (3 ≤ cntV ((n.heard 0).wi 0) v → n.step = 2) := by
  have hs : n.sheet = n.heard 0 := by unfold Nd.sheet; rw [h0]
  unfold one at e
  rw [if_neg (show ¬ n.height = 4 by omega)] at e
  have e' : (match firstSettled (n.heard 0) with
      | some r => some (settleAt who ⟨n, []⟩ r)
      | none => match farRound (n.heard 0) 0 with
        | some r => some (enter who ⟨n, []⟩ r)
        | none => if n.step = 0 then wishes who ⟨n, []⟩ else promises who ⟨n, []⟩) = none := by
    have hr := N.rnd
    rw [← hs]
    have e2 := e
    rw [show (At.mk n []).n.round = 0 from hr] at e2
    exact e2
  rw [farW_none N.c0.wi N.c0.pr] at e'
  cases ef : firstSettled (n.heard 0) with
  | some r => rw [ef] at e'; cases e'
  | none =>
    rw [ef] at e'
    simp only at e'
    refine ⟨?_, ?_, fun h3 => ?_⟩
    · unfold firstSettled at ef
      rw [List.find?_eq_none] at ef
      have := ef 0 (by simp)
      unfold settles at this
      rw [i0, (N.c0.val i0).1] at this
      simp at this
      exact this
    · by_cases hst : n.step = 0
      · rw [if_pos hst] at e'
        unfold wishes at e'
        simp only at e'
        rw [hs, N.rnd, i0, (N.c0.val i0).2] at e'
        rw [if_neg (by simp)] at e'
        cases e'
      · omega
    · by_cases hst : n.step = 0
      · rw [if_pos hst] at e'
        unfold wishes at e'
        simp only at e'
        rw [hs, N.rnd, i0, (N.c0.val i0).2] at e'
        rw [if_neg (by simp)] at e'
        cases e'
      · rw [if_neg hst] at e'
        unfold promises at e'
        simp only at e'
        rw [hs, N.rnd] at e'
        rw [if_neg (fun x => by have := cnt_none hv.1 N.c0; omega)] at e'
        by_cases s0 : n.seen 0 = true
        · exact N.seen h0 s0
        · have s1 : n.seen 0 = false := by simpa using s0
          rw [if_pos ⟨i0, s1, by rw [(N.c0.val i0).1]; exact h3⟩] at e'
          split at e' <;> cases e'
end Go.Proofs.Ytmmgaonlmpajbab
