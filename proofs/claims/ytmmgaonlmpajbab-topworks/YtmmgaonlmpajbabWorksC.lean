/-
  One value, no lies, no time: all settle it, whatever comes first (plain crowds).
-/
import Derived.Test.YtmmgaonlmpajbabWorks
import Derived.Test.YtmmgaonlmpajbabTPlay
namespace Go.Proofs.Ytmmgaonlmpajbab

theorem sendTo_has (fr : Nat) (w : Wd) (net : List (Nat × Wd)) (h : net.length + 4 ≤ 2000) : ∀ k, k ≤ 4 → (∀ x, x ∈ net → x ∈ sendTo fr w net k) ∧ (∀ t, t < k → t ≠ fr → (t, w) ∈ sendTo fr w net k) ∧ (sendTo fr w net k).length + (if fr < k then 1 else 0) ≤ net.length + k
  | 0, _ => ⟨fun _ hx => hx, fun t ht => absurd ht (by omega), by show net.length + _ ≤ _; rw [if_neg (by omega)]; omega⟩
  | k + 1, hk => by
    obtain ⟨h1, h2, h3⟩ := sendTo_has fr w net h k (by omega)
    have hl : (sendTo fr w net k).length < 2000 := by
      split at h3 <;> omega
    unfold sendTo
    by_cases e : k = fr
    · rw [if_neg (fun c => c.1 e)]
      refine ⟨h1, fun t ht hne => h2 t (by omega) hne, ?_⟩
      rw [if_neg (by omega)] at h3
      rw [if_pos (by omega)]
      omega
    · rw [if_pos ⟨e, hl⟩]
      refine ⟨fun x hx => List.mem_append_left _ (h1 x hx), fun t ht hne => ?_, ?_⟩
      · by_cases e2 : t = k
        · subst e2; exact List.mem_append_right _ (List.mem_singleton.2 rfl)
        · exact List.mem_append_left _ (h2 t (by omega) hne)
      · rw [List.length_append]
        by_cases c : fr < k
        · rw [if_pos c] at h3
          rw [if_pos (by omega)]
          simp; omega
        · rw [if_neg c] at h3
          rw [if_neg (by omega)]
          simp; omega
theorem sendAll_has {fr : Nat} (hf : fr < 4) : ∀ (ws : List Wd) (net : List (Nat × Wd)), net.length + 4 * ws.length ≤ 2000 → (∀ x, x ∈ net → x ∈ sendAll fr ws net) ∧ (∀ w, w ∈ ws → ∀ t, t < 4 → t ≠ fr → (t, w) ∈ sendAll fr ws net) ∧ (sendAll fr ws net).length ≤ net.length + 3 * ws.length
  | [], net, _ => ⟨fun _ hx => hx, fun w hw => (by cases hw), Nat.le_refl _⟩
  | w :: ws, net, h => by
    have h' : net.length + 4 * (ws.length + 1) ≤ 2000 := h
    obtain ⟨a1, a2, a3⟩ := sendTo_has fr w net (by omega) 4 (Nat.le_refl _)
    rw [if_pos hf] at a3
    obtain ⟨b1, b2, b3⟩ := sendAll_has hf ws (sendTo fr w net 4) (by omega)
    refine ⟨fun x hx => b1 x (a1 x hx), fun u hu t ht hne => ?_, ?_⟩
    · rcases List.mem_cons.1 hu with rfl | hu
      · exact b1 _ (a2 t ht hne)
      · exact b2 u hu t ht hne
    · show (sendAll fr ws (sendTo fr w net 4)).length ≤ net.length + 3 * (ws.length + 1)
      omega

/-- A node has promised: its letters lie there. -/
def Prom (v : Int) (c : Cw) (k : Nat) : Prop := (∀ t, t < 4 → t ≠ k → (t, wR k v) ∈ c.net) ∧ ((c.nd k).heard 0).pr 0 k ≠ 0
/-- A crowd in which all speak of one value; p: it was proposed. -/
structure WCr (v : Int) (p : Bool) (c : Cw) : Prop where
  good : CG c
  nd : ∀ i, i < 4 → WN v i (c.nd i) ∧ one i ⟨c.nd i, []⟩ = none
  net : ∀ x, x ∈ c.net → CW v x.2
  s3 : ∀ i k, i < 4 → k < 4 → ((c.nd i).heard 0).pr 0 k ≠ 0 → Prom v c k
  s3n : ∀ t k, k < 4 → (t, wR k v) ∈ c.net → Prom v c k
  s2 : ∀ i, i < 4 → (c.nd i).height = 0 → 1 ≤ (c.nd i).step → ∀ t, t < 4 → t ≠ i → (t, wW i v) ∈ c.net
  s1 : p = true → ∀ t, t < 4 → t ≠ 0 → (t, wP v) ∈ c.net
  n0 : p = true → ((c.nd 0).heard 0).is 0 = true
  len : c.net.length ≤ (if p then 3 else 0) + 3 * (toldN (c.nd 0) + toldN (c.nd 1) + toldN (c.nd 2) + toldN (c.nd 3))
theorem WCr.room {v : Int} {p : Bool} {c : Cw} (H : WCr v p c) : c.net.length ≤ 27 := by
  have h0 := (H.nd 0 (by omega)).1.told
  have h1 := (H.nd 1 (by omega)).1.told
  have h2 := (H.nd 2 (by omega)).1.told
  have h3 := (H.nd 3 (by omega)).1.told
  have := H.len
  split at this <;> omega
theorem cwo_wR {v : Int} {i k : Nat} (h : CWo v i (wR k v)) : k = i := by
  rcases h with e | e | ⟨_, e⟩
  · injection e with e; omega
  · injection e with _ e; omega
  · injection e with e; omega

theorem told_did {c : Cw} {i : Nat} (hi : i < 4) {a : At} {d : Nat} (h : toldN (c.nd i) + d ≤ toldN a.n) :
    toldN (c.nd 0) + toldN (c.nd 1) + toldN (c.nd 2) + toldN (c.nd 3) + d ≤ toldN ((c.did i a).nd 0) + toldN ((c.did i a).nd 1) + toldN ((c.did i a).nd 2) + toldN ((c.did i a).nd 3) := by
  have e : ∀ k, (c.did i a).nd k = if k = i then a.n else c.nd k := fun _ => rfl
  have hi' : i = 0 ∨ i = 1 ∨ i = 2 ∨ i = 3 := by omega
  rcases hi' with rfl | rfl | rfl | rfl
  · rw [e 0, if_pos rfl, e 1, if_neg (by omega), e 2, if_neg (by omega), e 3, if_neg (by omega)]; omega
  · rw [e 0, if_neg (by omega), e 1, if_pos rfl, e 2, if_neg (by omega), e 3, if_neg (by omega)]; omega
  · rw [e 0, if_neg (by omega), e 1, if_neg (by omega), e 2, if_pos rfl, e 3, if_neg (by omega)]; omega
  · rw [e 0, if_neg (by omega), e 1, if_neg (by omega), e 2, if_neg (by omega), e 3, if_pos rfl]; omega

theorem did_WCr {v : Int} (_hv : 1 ≤ v ∧ v ≤ 9) {p p' : Bool} {c : Cw} (H : WCr v p c) {i : Nat} (hi : i < 4) {n0 : Nd} {m : Nat} {a : At} (hm : (if p then 3 else 0) + 3 * m ≤ (if p' then 3 else 0)) (hm1 : m ≤ 1)
    (A : WA v i n0 m a) (hnone : one i ⟨a.n, []⟩ = none) (G : CG (c.did i a)) (ht : toldN n0 = toldN (c.nd i))
    (h3k : ((c.nd i).heard 0).pr 0 i ≠ 0 → (n0.heard 0).pr 0 i ≠ 0) (h3 : ∀ k, k < 4 → (n0.heard 0).pr 0 k ≠ 0 → Prom v c k)
    (h2 : n0.height = 0 → 1 ≤ n0.step → (c.nd i).height = 0 ∧ 1 ≤ (c.nd i).step)
    (hp : p' = true → (p = true ∧ (((c.nd i).heard 0).is 0 = true → (n0.heard 0).is 0 = true)) ∨ (i = 0 ∧ wP v ∈ a.words ∧ (a.n.heard 0).is 0 = true)) : WCr v p' (c.did i a) := by
  have hr := H.room
  have hw3 : a.words.length ≤ 3 := by have := A.cnt; have := A.nd.told; omega
  obtain ⟨q1, q2, q3⟩ := sendAll_has hi a.words c.net (by omega)
  have e : ∀ k, (c.did i a).nd k = if k = i then a.n else c.nd k := fun _ => rfl
  have en : (c.did i a).net = sendAll i a.words c.net := rfl
  have ownI : ((c.nd i).heard 0).pr 0 i ≠ 0 → (a.n.heard 0).pr 0 i ≠ 0 := fun h => A.keep (h3k h)
  have prom : ∀ k, k < 4 → Prom v c k → Prom v (c.did i a) k := fun k hk h => by
    refine ⟨fun t h4 hne => q1 _ (h.1 t h4 hne), ?_⟩
    rw [e]
    by_cases ei : k = i
    · subst ei; rw [if_pos rfl]; exact ownI h.2
    · rw [if_neg ei]; exact h.2
  have promI : wR i v ∈ a.words → Prom v (c.did i a) i := fun h => by
    refine ⟨fun t h4 hne => q2 _ h t h4 hne, ?_⟩
    rw [e, if_pos rfl]; exact A.back3 h
  have own3 : (a.n.heard 0).pr 0 i ≠ 0 → Prom v (c.did i a) i := fun h => by
    rcases A.said3 h with x | x
    · exact prom i hi (h3 i hi x)
    · exact promI x
  refine ⟨G, fun k hk => ?_, fun x hx => ?_, fun j k hj hk h => ?_, fun t k hk h => ?_, fun j hj z1 z2 t h4 hne => ?_, fun hp' t h4 hne => ?_, fun hp' => ?_, ?_⟩
  · rw [e]
    by_cases ei : k = i
    · subst ei; rw [if_pos rfl]; exact ⟨A.nd, hnone⟩
    · rw [if_neg ei]; exact H.nd k hk
  · rcases sendAll_mem i a.words c.net x hx with y | y
    · exact H.net x y
    · exact ⟨i, hi, A.words _ y.2.2⟩
  · rw [e] at h
    by_cases ej : j = i
    · subst ej
      rw [if_pos rfl] at h
      by_cases ek : k = j
      · subst ek; exact own3 h
      · rw [A.oth k ek] at h; exact prom k hk (h3 k hk h)
    · rw [if_neg ej] at h; exact prom k hk (H.s3 j k hj hk h)
  · rcases sendAll_mem i a.words c.net _ h with y | y
    · exact prom k hk (H.s3n t k hk y)
    · have := cwo_wR (A.words _ y.2.2)
      subst this
      exact promI y.2.2
  · rw [e] at z1 z2
    by_cases ej : j = i
    · subst ej
      rw [if_pos rfl] at z1 z2
      rcases A.said2 z1 z2 with x | x
      · have := h2 x.1 x.2
        exact q1 _ (H.s2 j hj this.1 this.2 t h4 hne)
      · exact q2 _ x t h4 hne
    · rw [if_neg ej] at z1 z2
      exact q1 _ (H.s2 j hj z1 z2 t h4 hne)
  · rcases hp hp' with x | x
    · exact q1 _ (H.s1 x.1 t h4 hne)
    · rw [x.1] at q2
      have := q2 _ x.2.1 t h4 hne
      rw [en, x.1]; exact this
  · rw [e]
    rcases hp hp' with x | x
    · by_cases ei : 0 = i
      · rw [if_pos ei]
        refine A.is (x.2 ?_)
        rw [← ei]; exact H.n0 x.1
      · rw [if_neg ei]; exact H.n0 x.1
    · rw [if_pos x.1.symm]; exact x.2.2
  · have hc := A.cnt
    have hl := H.len
    rw [en]
    have hz := A.mono
    have := told_did hi (c := c) (a := a) (d := toldN a.n - toldN (c.nd i)) (by omega)
    omega

theorem hear_WCr {v : Int} (hv : 1 ≤ v ∧ v ≤ 9) {c : Cw} (H : WCr v true c) {t : Nat} {w : Wd} (hx : (t, w) ∈ c.net) : WCr v true (c.did t (hearN t (c.nd t) w)) ∧ hearW ((hearN t (c.nd t) w).n.heard 0) w = (hearN t (c.nd t) w).n.heard 0 ∧ ∀ u, CW v u → hearW ((c.nd t).heard 0) u = (c.nd t).heard 0 → hearW ((hearN t (c.nd t) w).n.heard 0) u = (hearN t (c.nd t) w).n.heard 0 := by
  have h4 : t < 4 := H.good.dest _ hx
  have hw := H.net _ hx
  have hw' : CW v w := hw
  obtain ⟨gw, hh⟩ := hw'.good hv
  have N := (H.nd t h4).1
  obtain ⟨N1, p1, p2, p3⟩ := hear_WN hv N hw'
  have G1 : GN ((c.nd t).setSheet w.h.toNat (hearW ((c.nd t).heard w.h.toNat) w)) := (H.good.nd t h4).good.hear _ w
  have F := FI.start G1
  have e0 : w.h.toNat = 0 := by rw [hh]; rfl
  rw [e0] at F
  have e1 : hearN t (c.nd t) w = follow t ⟨(c.nd t).setSheet 0 (hearW ((c.nd t).heard 0) w), []⟩ := by
    unfold hearN
    rw [e0]
  have A := follow_WA hv h4 N1.told F (start_WA N1)
  rw [← e1] at A
  have hnone := one_none_words [] (follow_ends (who := t) _ _ F (Nat.le_refl _)).1
  rw [← e1] at hnone
  refine ⟨did_WCr hv H h4 (m := 0) (by decide) (by omega) A hnone (H.good.did (hear_whole (H.good.nd t h4) t gw).1) rfl (fun h => p1 t h) (fun k hk h => ?_) (fun a b => ⟨a, b⟩) (fun _ => Or.inl ⟨rfl, p3⟩), ?_, fun u hu hh2 => ?_⟩
  · rcases p2 k h with x | x
    · exact H.s3 t k h4 hk x
    · exact H.s3n t k hk (by rw [← x]; exact hx)
  · rw [e1]
    refine (heard_steady t (h := 0) gw hh).follow F ?_
    show hearW (if 0 = 0 then hearW ((c.nd t).heard 0) w else (c.nd t).heard 0) w = if 0 = 0 then hearW ((c.nd t).heard 0) w else (c.nd t).heard 0
    rw [if_pos rfl]
    exact hear_twice _ w w gw rfl rfl rfl rfl
  · rw [e1]
    obtain ⟨gu, hu0⟩ := hu.good hv
    refine (heard_steady t (h := 0) gu hu0).follow F ?_
    show hearW (if 0 = 0 then hearW ((c.nd t).heard 0) w else (c.nd t).heard 0) u = if 0 = 0 then hearW ((c.nd t).heard 0) w else (c.nd t).heard 0
    rw [if_pos rfl]
    exact heard_stays gu hh2 w (by rw [hh, hu0])

/-- Where all letters were heard, all have settled. -/
theorem all_settled {v : Int} (hv : 1 ≤ v ∧ v ≤ 9) {c : Cw} (H : WCr v true c) (hall : ∀ x, x ∈ c.net → hearW ((c.nd x.1).heard 0) x.2 = (c.nd x.1).heard 0) : ∀ i, i < 4 → (c.nd i).height = 1 ∧ (c.nd i).settled 0 = v := by
  have hcall : ∀ i, i < 4 → ((c.nd i).heard 0).is 0 = true := fun i hi => by
    by_cases e : i = 0
    · rw [e]; exact H.n0 rfl
    · have := hall _ (H.s1 rfl i hi e)
      have h2 := ((H.nd i hi).1.c0.call hv).2.1
      rw [this] at h2; exact h2
  have hprom : ∀ i k, i < 4 → k < 4 → Prom v c k → ((c.nd i).heard 0).pr 0 k = 1 + v := fun i k hi hk h => by
    by_cases e : i = k
    · subst e
      rcases (H.nd i hi).1.c0.p0 i with x | x
      · exact absurd x h.2
      · exact x
    · have := hall _ (h.1 i hi e)
      have h2 := ((H.nd i hi).1.c0.promise hv hk).2.1
      rw [this] at h2; exact h2
  have key : ∀ i, i < 4 → (c.nd i).height ≠ 0 := fun i hi h0 => by
    have all0 : ∀ j, j < 4 → (c.nd j).height = 0 := fun j hj => by
      by_cases hj0 : (c.nd j).height = 0
      · exact hj0
      · have h1 : (c.nd j).height = 1 := by have := (H.nd j hj).1.hgt; omega
        have hd := ((H.nd j hj).1.done h1).2.2
        have hm := cnt_more (V := ((c.nd j).heard 0).pr 0) (V' := ((c.nd i).heard 0).pr 0) (v := v) (fun k hk h => hprom i k hi hk (H.s3 j k hj hk (by omega))) (by omega)
        have := (none_WN hv (H.nd i hi).1 (H.nd i hi).2 h0 (hcall i hi)).1
        omega
    have st1 : ∀ j, j < 4 → 1 ≤ (c.nd j).step := fun j hj => (none_WN hv (H.nd j hj).1 (H.nd j hj).2 (all0 j hj) (hcall j hj)).2.1
    have wi4 : ∀ j k, j < 4 → k < 4 → ((c.nd j).heard 0).wi 0 k = 1 + v := fun j k hj hk => by
      by_cases e : j = k
      · subst e; exact (H.nd j hj).1.own2 (all0 j hj) (st1 j hj)
      · have := hall _ (H.s2 k hk (all0 k hk) (st1 k hk) j hj e)
        have h2 := ((H.nd j hj).1.c0.wish hv hk).2.1
        rw [this] at h2; exact h2
    have st2 : ∀ j, j < 4 → (c.nd j).step = 2 := fun j hj => (none_WN hv (H.nd j hj).1 (H.nd j hj).2 (all0 j hj) (hcall j hj)).2.2 (by rw [cnt_all (by omega) (fun k hk => wi4 j k hj hk)]; omega)
    have pr4 : ∀ k, k < 4 → ((c.nd i).heard 0).pr 0 k = 1 + v := fun k hk => hprom i k hi hk (H.s3 k k hk hk (by rw [(H.nd k hk).1.own3 (all0 k hk) (st2 k hk)]; omega))
    have := (none_WN hv (H.nd i hi).1 (H.nd i hi).2 h0 (hcall i hi)).1
    rw [cnt_all (by omega) pr4] at this
    omega
  intro i hi
  have h1 : (c.nd i).height = 1 := by have := (H.nd i hi).1.hgt; have := key i hi; omega
  exact ⟨h1, ((H.nd i hi).1.done h1).2.1⟩

/-! ### The first crowd, and the value submitted -/
theorem newN_heard (g : Nat) : ((newN.nd []).heard g).is = (fun _ => false) ∧ ((newN.nd []).heard g).wi = (fun _ _ => 0) ∧ ((newN.nd []).heard g).pr = fun _ _ => 0 := by
  show ((if g < 4 then newN.heard g else noSh).is = _) ∧ ((if g < 4 then newN.heard g else noSh).wi = _) ∧ ((if g < 4 then newN.heard g else noSh).pr = _)
  split <;> exact ⟨rfl, rfl, rfl⟩
theorem newN_WN (v : Int) (who : Nat) : WN v who (newN.nd []) := by
  have z0 := newN_heard 0
  have z1 := newN_heard 1
  refine ⟨Nat.zero_le 1, rfl, ⟨fun r _ => by rw [z0.1], fun r k _ => by rw [z0.2.1], fun r k _ => by rw [z0.2.2], fun h => ?_, fun k => Or.inl (by rw [z0.2.1]), fun k => Or.inl (by rw [z0.2.2])⟩, ⟨fun r => by rw [z1.1], fun r k => by rw [z1.2.1], fun r k => by rw [z1.2.2]⟩, fun q hq => (by cases hq), Nat.zero_le 2, fun _ _ => rfl, fun _ h => absurd h (by show ¬ 1 ≤ 0; omega), fun _ h => absurd h (by show ¬ 0 = 2; omega), fun _ h => absurd h (by show ¬ false = true; decide), fun h => absurd h (by show ¬ 0 = 1; omega)⟩
  rw [z0.1] at h; cases h
theorem newN_none (who : Nat) : one who ⟨newN.nd [], []⟩ = none := by
  have z0 := newN_heard 0
  have E : Em (newN.nd []).sheet := ⟨fun r => by show ((newN.nd []).heard 0).is r = false; rw [z0.1], fun r k => by show ((newN.nd []).heard 0).wi r k = 0; rw [z0.2.1], fun r k => by show ((newN.nd []).heard 0).pr r k = 0; rw [z0.2.2]⟩
  unfold one
  rw [if_neg (show ¬ (newN.nd []).height = 4 by show ¬ 0 = 4; omega), first_em E, show (At.n ⟨newN.nd [], []⟩).round = 0 from rfl, farW_none (fun r k _ => E.wi r k) (fun r k _ => E.pr r k)]
  simp only
  rw [if_pos (show (newN.nd []).step = 0 from rfl)]
  unfold wishes
  exact if_pos (Or.inl (E.is _))
theorem newC_WCr (v : Int) {liar : Int} (hl : -1 ≤ liar ∧ liar ≤ 3) : WCr v false (newC liar) := by
  have z0 := newN_heard 0
  refine ⟨newC_good hl, fun i _ => ⟨newN_WN v i, newN_none i⟩, fun x hx => (by cases hx), fun i k _ _ h => ?_, fun t k _ h => (by cases h), fun i _ _ h => absurd h (by show ¬ 1 ≤ 0; omega), fun h => (by cases h), fun h => (by cases h), Nat.zero_le _⟩
  exact absurd (show ((newN.nd []).heard 0).pr 0 k = 0 by rw [z0.2.2]) h
theorem WCr.more {v : Int} {p : Bool} {c : Cw} (H : WCr v p c) (h6 : c.acts ≠ 600) : WCr v p c.more := ⟨H.good.more h6, H.nd, H.net, H.s3, H.s3n, H.s2, H.s1, H.n0, H.len⟩
theorem mem_steady (who : Nat) (w : Wd) : Steady who (fun a => w ∈ a.words) := ⟨fun _ _ _ _ hp _ => List.mem_append_left _ hp, fun _ _ hp _ => hp, fun _ _ hp _ _ _ _ => hp, fun _ _ hp _ => hp, fun _ _ _ _ _ _ hp => hp⟩
/-- The act that submits a value at the first node. -/
def subAct (v : Int) : Ac := ⟨1, 0, 0, v, ⟨0, 0, 0, 0, 0, 0⟩, fun _ => 0⟩
theorem do_subW {v : Int} (hv : 1 ≤ v ∧ v ≤ 9) (liar : Int) : (doC (newC liar) (subAct v)).1 = (newC liar).more.did 0 (submitN 0 (newN.nd []) v) := by
  have hs : subCode ((newC liar).more.nd (subAct v).node.toNat) (subAct v).value = 0 := by
    show subCode ((newC liar).more.nd (0 : Int).toNat) v = 0
    unfold subCode
    rw [if_pos (win_iff.2 hv)]
    exact if_neg (show ¬ 0 = 6 by omega)
  unfold doC
  rw [if_neg (show ¬ (newC liar).acts = 600 by show ¬ 0 = 600; omega), if_pos (show (subAct v).kind = 1 from rfl)]
  unfold subC
  rw [if_pos (show win (subAct v).node 0 3 = true from rfl), if_pos hs]
  rfl
theorem submit_WCr {v : Int} (hv : 1 ≤ v ∧ v ≤ 9) {liar : Int} (hl : -1 ≤ liar ∧ liar ≤ 3) : WCr v true ((newC liar).more.did 0 (submitN 0 (newN.nd []) v)) := by
  have H := (newC_WCr v hl).more (by show ¬ 0 = 600; omega)
  have hy : win v 1 9 = true := win_iff.2 hv
  have z0 := newN_heard 0
  have N := newN_WN v 0
  have GP : GN ((newN.nd []).push v) := newN_whole.good.push hv (by show 0 < 6; omega)
  have e2 : submitN 0 (newN.nd []) v = follow 0 (enter 0 ⟨(newN.nd []).push v, []⟩ (newN.nd []).round) := by
    have e1 : submitN 0 (newN.nd []) v = if (newN.nd []).height < 4 ∧ (newN.nd []).step = 0 then follow 0 (enter 0 ⟨(newN.nd []).push v, []⟩ (newN.nd []).round) else ⟨(newN.nd []).push v, []⟩ := rfl
    rw [e1, if_pos ⟨by show 0 < 4; omega, rfl⟩]
  have F : FI (enter 0 ⟨(newN.nd []).push v, []⟩ (newN.nd []).round) := FI.enter0 (who := 0) (n := (newN.nd []).push v) GP
  have e3 : enter 0 ⟨(newN.nd []).push v, []⟩ (newN.nd []).round = ⟨{ (newN.nd []).push v with heard := fun g => if g = 0 then hearW ((newN.nd []).heard 0) (wP v) else (newN.nd []).heard g }, [wP v]⟩ := by
    have hc : ¬ (((newN.nd []).push v).height = 4 ∨ lead ((newN.nd []).push v).height ((newN.nd []).round : Int) ≠ ((0 : Nat) : Int) ∨ ((newN.nd []).push v).sheet.is (newN.nd []).round = true) := by
      rintro (h | h | h)
      · exact absurd h (by show ¬ 0 = 4; omega)
      · exact h rfl
      · have h' : ((newN.nd []).heard 0).is 0 = true := h
        rw [z0.1] at h'; cases h'
    unfold enter
    simp only
    refine (if_neg hc).trans ?_
    refine (if_neg (show ¬ (0 : Int) ≤ -1 by omega)).trans ?_
    exact tell_at rfl rfl 1 v (-1)
  rw [e3] at F
  have e4 : submitN 0 (newN.nd []) v = follow 0 ⟨{ (newN.nd []).push v with heard := fun g => if g = 0 then hearW ((newN.nd []).heard 0) (wP v) else (newN.nd []).heard g }, [wP v]⟩ := by rw [e2, e3]
  obtain ⟨k1, k2, k3, k4⟩ := N.c0.call hv
  obtain ⟨n0, hn0⟩ : ∃ n0 : Nd, n0 = { (newN.nd []).push v with heard := fun g => if g = 0 then hearW ((newN.nd []).heard 0) (wP v) else (newN.nd []).heard g } := ⟨_, rfl⟩
  rw [← hn0] at F e4
  have z1 : (n0.heard 0).pr = fun _ _ => 0 := by rw [hn0]; show (hearW ((newN.nd []).heard 0) (wP v)).pr = _; rw [k4, z0.2.2]
  have A0 : WA v 0 n0 1 ⟨n0, [wP v]⟩ := by
    refine ⟨?_, fun k _ => rfl, fun h => h, fun h => Or.inl h, fun h => ?_, fun _ h => absurd h (by rw [hn0]; show ¬ 1 ≤ 0; omega), fun h => h, by show 1 + toldN n0 ≤ toldN n0 + 1; omega, Nat.le_refl _, fun w hw => ?_⟩
    · rw [hn0]
      refine ⟨N.hgt, N.rnd, k1, N.c1, fun q hq => ?_, N.st, N.bnd, fun _ h => absurd h (by show ¬ 1 ≤ 0; omega), fun _ h => absurd h (by show ¬ 0 = 2; omega), N.seen, fun h => absurd h (by show ¬ 0 = 1; omega)⟩
      have hq' : q ∈ [v] := hq
      exact List.mem_singleton.1 hq'
    · have h' : wR 0 v = wP v := List.mem_singleton.1 h
      injection h' with h' _
      omega
    · exact Or.inr (Or.inr ⟨rfl, List.mem_singleton.1 hw⟩)
  have A := follow_WA hv (show 0 < 4 by omega) A0.nd.told F A0
  have hnone := one_none_words [] (follow_ends (who := 0) _ _ F (Nat.le_refl _)).1
  have hwP : wP v ∈ (follow 0 ⟨n0, [wP v]⟩).words := (mem_steady 0 (wP v)).follow F (List.mem_singleton.2 rfl)
  rw [← e4] at A hnone hwP
  have hG : CG ((newC liar).more.did 0 (submitN 0 (newN.nd []) v)) := by
    have h1 := do_good (newC_good hl) (subAct v)
    rw [do_subW hv liar] at h1; exact h1
  refine did_WCr hv H (by omega) (m := 1) (by decide) (by omega) A hnone hG (by rw [hn0]; rfl) (fun h => absurd (show ((newN.nd []).heard 0).pr 0 0 = 0 by rw [z0.2.2]) h) (fun k _ h => absurd (by rw [z1]) h) (fun _ h => absurd h (by rw [hn0]; show ¬ 1 ≤ 0; omega)) (fun _ => Or.inr ⟨rfl, hwP, A.is ?_⟩)
  rw [hn0]; exact k2
end Go.Proofs.Ytmmgaonlmpajbab
