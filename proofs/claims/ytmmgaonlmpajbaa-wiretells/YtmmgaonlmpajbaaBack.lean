/-
  For every word and text the statement WireBack's function returns true.
-/
import Derived.Test.YtmmgaonlmpajbaaDec
import Derived.Test.YtmmgaonlmpajbaaLeads
namespace Go.Proofs.Ytmmgaonlmpajbaa
open Go.RowKit

theorem enc_inj {k f h r v x k' f' h' r' v' x' : Int} (hg : goodC k f h r v x = 0) (hg' : goodC k' f' h' r' v' x' = 0) (he : encB k f h r v x = encB k' f' h' r' v' x') :
    k' = k ∧ f' = f ∧ h' = h ∧ r' = r ∧ v' = v ∧ x' = x := by
  have a := six_of (c0 := sgn k) (c1 := sgn f) (c2 := sgn h) (c3 := sgn r) (c4 := sgn v) (c5 := sgn x) hg rfl
  have b := six_of (c0 := sgn k) (c1 := sgn f) (c2 := sgn h) (c3 := sgn r) (c4 := sgn v) (c5 := sgn x) hg' he
  omega

theorem dec_back {k f h r v x k' f' h' r' v' x' e : Int} (hg : goodC k f h r v x = 0) (hd : Dec (encB k f h r v x) k' f' h' r' v' x' e) :
    k' = k ∧ f' = f ∧ h' = h ∧ r' = r ∧ v' = v ∧ x' = x ∧ e = 0 := by
  rcases hd with ⟨he, hg', hs⟩ | ⟨_, _, _, _, _, _, _, hn⟩
  · have := enc_inj hg hg' hs
    omega
  · exact absurd rfl (hn k f h r v x hg)

theorem dec_none {s : ByteArray} {k' f' h' r' v' x' e : Int} (hn : ∀ k f h r v x, goodC k f h r v x = 0 → s ≠ encB k f h r v x) (hd : Dec s k' f' h' r' v' x' e) :
    k' = 0 ∧ f' = 0 ∧ h' = 0 ∧ r' = 0 ∧ v' = 0 ∧ x' = 0 ∧ e = 1 := by
  rcases hd with ⟨_, hg', hs⟩ | ⟨h1, h2, h3, h4, h5, h6, h7, _⟩
  · exact absurd hs (hn _ _ _ _ _ _ hg')
  · exact ⟨h2, h3, h4, h5, h6, h7, h1⟩

theorem decode_back (k f h r v x : Int) (w : World) (hg : goodC k f h r v x = 0) :
    Calls Try.prog 17 #[.string (encB k f h r v x)] w fun e w' => e = .returned (.tuple #[.agg #[.int .i64 k, .int .i64 f, .int .i64 h, .int .i64 r, .int .i64 v, .int .i64 x], .int .i64 0]) ∧ Below w.heap.size w w' := by
  refine (decode_any (encB k f h r v x) w (by show 6 ≤ maxLen; decide)).mono ?_
  rintro e w' ⟨k', f', h', r', v', x', c, rfl, hd, hb⟩
  obtain ⟨rfl, rfl, rfl, rfl, rfl, rfl, rfl⟩ := dec_back hg hd
  exact ⟨rfl, hb⟩

theorem decode_none (s : ByteArray) (w : World) (hm : s.size ≤ maxLen) (hn : ∀ k f h r v x, goodC k f h r v x = 0 → s ≠ encB k f h r v x) :
    Calls Try.prog 17 #[.string s] w fun e w' => e = .returned (.tuple #[.agg #[.int .i64 0, .int .i64 0, .int .i64 0, .int .i64 0, .int .i64 0, .int .i64 0], .int .i64 1]) ∧ Below w.heap.size w w' := by
  refine (decode_any s w hm).mono ?_
  rintro e w' ⟨k', f', h', r', v', x', c, rfl, hd, hb⟩
  obtain ⟨rfl, rfl, rfl, rfl, rfl, rfl, rfl⟩ := dec_none hn hd
  exact ⟨rfl, hb⟩

theorem none_empty : ∀ k f h r v x, goodC k f h r v x = 0 → (⟨#[]⟩ : ByteArray) ≠ encB k f h r v x := by
  intro k f h r v x _ h
  simp [encB] at h

theorem bel_trans {a b c : World} (h : Below a.heap.size a b) (k : Below b.heap.size b c) : Below a.heap.size a c := h.trans (k.mono h.size)

set_option maxHeartbeats 4000000 in
theorem back_gg (k f h r v x : Int) (k' f' h' r' v' x' : Int) (w : World) (hg : goodC k f h r v x = 0) (hg' : goodC k' f' h' r' v' x' = 0) :
    Calls Try.prog 4 #[.agg #[.int .i64 k, .int .i64 f, .int .i64 h, .int .i64 r, .int .i64 v, .int .i64 x], .string (encB k' f' h' r' v' x')] w fun e w' => e = .returned (.bool true) ∧ Below w.heap.size w w' := by
  go_enter Try.func4, Try.ntmps4
  go_wp2_with fail
  refine (encode_good _ _ _ _ _ _ _ hg).mono ?_
  rintro e w1 ⟨rfl, hb1⟩
  obtain ⟨hc1, hf1⟩ := bcell hb1
  have hz1 : w.heap.size < w1.heap.size := size_past hb1
  go_wp2_with fail
  refine (decode_back _ _ _ _ _ _ _ hg).mono ?_
  rintro e w2 ⟨rfl, hb2⟩
  obtain ⟨hc2, hf2⟩ := bcell hb2
  have hz2 : w.heap.size < w2.heap.size := Nat.lt_of_lt_of_le hz1 hb2.size
  go_wp2_with fail
  refine (decode_back _ _ _ _ _ _ _ hg').mono ?_
  rintro e w3 ⟨rfl, hb3⟩
  go_wp2_with fail
  refine (encode_good _ _ _ _ _ _ _ hg').mono ?_
  rintro e w4 ⟨rfl, hb4⟩
  go_wp2_with fail
  refine (wires_any _).mono ?_
  rintro e w5 ⟨rfl, hb5⟩
  go_wp2
  go_ret
  exact ⟨rfl, bel_trans (bel_trans (bel_trans (bel_trans (below_past hb1) hb2) (below_past hb3)) (below_past hb4)) hb5⟩

set_option maxHeartbeats 4000000 in
theorem back_gn (k f h r v x : Int) (s : ByteArray) (w : World) (hg : goodC k f h r v x = 0) (hm : s.size ≤ maxLen) (hn : ∀ k f h r v x, goodC k f h r v x = 0 → s ≠ encB k f h r v x) :
    Calls Try.prog 4 #[.agg #[.int .i64 k, .int .i64 f, .int .i64 h, .int .i64 r, .int .i64 v, .int .i64 x], .string s] w fun e w' => e = .returned (.bool true) ∧ Below w.heap.size w w' := by
  have HN : Hid (∀ k f h r v x, goodC k f h r v x = 0 → s ≠ encB k f h r v x) := hn
  clear hn
  go_enter Try.func4, Try.ntmps4
  go_wp2_with fail
  refine (encode_good _ _ _ _ _ _ _ hg).mono ?_
  rintro e w1 ⟨rfl, hb1⟩
  obtain ⟨hc1, hf1⟩ := bcell hb1
  have hz1 : w.heap.size < w1.heap.size := size_past hb1
  go_wp2_with fail
  refine (decode_back _ _ _ _ _ _ _ hg).mono ?_
  rintro e w2 ⟨rfl, hb2⟩
  obtain ⟨hc2, hf2⟩ := bcell hb2
  have hz2 : w.heap.size < w2.heap.size := Nat.lt_of_lt_of_le hz1 hb2.size
  go_wp2_with fail
  refine (decode_none _ _ hm HN.out).mono ?_
  rintro e w3 ⟨rfl, hb3⟩
  go_wp2_with fail
  refine (encode_bad _ _ _ _ _ _ _ (by decide)).mono ?_
  rintro e w4 ⟨rfl, hb4⟩
  go_wp2_with fail
  refine (wires_any _).mono ?_
  rintro e w5 ⟨rfl, hb5⟩
  go_wp2
  go_ret
  exact ⟨rfl, bel_trans (bel_trans (bel_trans (bel_trans (below_past hb1) hb2) (below_past hb3)) (below_past hb4)) hb5⟩

set_option maxHeartbeats 4000000 in
theorem back_bg (k f h r v x : Int) (k' f' h' r' v' x' : Int) (w : World) (hg : (goodC k f h r v x != 0) = true) (hgb : (goodC k f h r v x == 0) = false) (hg' : goodC k' f' h' r' v' x' = 0) :
    Calls Try.prog 4 #[.agg #[.int .i64 k, .int .i64 f, .int .i64 h, .int .i64 r, .int .i64 v, .int .i64 x], .string (encB k' f' h' r' v' x')] w fun e w' => e = .returned (.bool true) ∧ Below w.heap.size w w' := by
  go_enter Try.func4, Try.ntmps4
  go_wp2_with fail
  refine (encode_bad _ _ _ _ _ _ _ hg).mono ?_
  rintro e w1 ⟨rfl, hb1⟩
  obtain ⟨hc1, hf1⟩ := bcell hb1
  have hz1 : w.heap.size < w1.heap.size := size_past hb1
  go_wp2_with fail
  refine (decode_none _ _ (by show 0 ≤ maxLen; decide) none_empty).mono ?_
  rintro e w2 ⟨rfl, hb2⟩
  obtain ⟨hc2, hf2⟩ := bcell hb2
  have hz2 : w.heap.size < w2.heap.size := Nat.lt_of_lt_of_le hz1 hb2.size
  go_wp2_with fail
  refine (decode_back _ _ _ _ _ _ _ hg').mono ?_
  rintro e w3 ⟨rfl, hb3⟩
  go_wp2_with fail
  refine (encode_good _ _ _ _ _ _ _ hg').mono ?_
  rintro e w4 ⟨rfl, hb4⟩
  go_wp2_with fail
  refine (wires_any _).mono ?_
  rintro e w5 ⟨rfl, hb5⟩
  go_wp2
  go_ret
  exact ⟨rfl, bel_trans (bel_trans (bel_trans (bel_trans (below_past hb1) hb2) (below_past hb3)) (below_past hb4)) hb5⟩

set_option maxHeartbeats 4000000 in
theorem back_bn (k f h r v x : Int) (s : ByteArray) (w : World) (hg : (goodC k f h r v x != 0) = true) (hgb : (goodC k f h r v x == 0) = false) (hm : s.size ≤ maxLen) (hn : ∀ k f h r v x, goodC k f h r v x = 0 → s ≠ encB k f h r v x) :
    Calls Try.prog 4 #[.agg #[.int .i64 k, .int .i64 f, .int .i64 h, .int .i64 r, .int .i64 v, .int .i64 x], .string s] w fun e w' => e = .returned (.bool true) ∧ Below w.heap.size w w' := by
  have HN : Hid (∀ k f h r v x, goodC k f h r v x = 0 → s ≠ encB k f h r v x) := hn
  clear hn
  go_enter Try.func4, Try.ntmps4
  go_wp2_with fail
  refine (encode_bad _ _ _ _ _ _ _ hg).mono ?_
  rintro e w1 ⟨rfl, hb1⟩
  obtain ⟨hc1, hf1⟩ := bcell hb1
  have hz1 : w.heap.size < w1.heap.size := size_past hb1
  go_wp2_with fail
  refine (decode_none _ _ (by show 0 ≤ maxLen; decide) none_empty).mono ?_
  rintro e w2 ⟨rfl, hb2⟩
  obtain ⟨hc2, hf2⟩ := bcell hb2
  have hz2 : w.heap.size < w2.heap.size := Nat.lt_of_lt_of_le hz1 hb2.size
  go_wp2_with fail
  refine (decode_none _ _ hm HN.out).mono ?_
  rintro e w3 ⟨rfl, hb3⟩
  go_wp2_with fail
  refine (encode_bad _ _ _ _ _ _ _ (by decide)).mono ?_
  rintro e w4 ⟨rfl, hb4⟩
  go_wp2_with fail
  refine (wires_any _).mono ?_
  rintro e w5 ⟨rfl, hb5⟩
  go_wp2
  go_ret
  exact ⟨rfl, bel_trans (bel_trans (bel_trans (bel_trans (below_past hb1) hb2) (below_past hb3)) (below_past hb4)) hb5⟩

theorem back_any (k f h r v x : Int) (s : ByteArray) (w : World) (hm : s.size ≤ maxLen) :
    Calls Try.prog 4 #[.agg #[.int .i64 k, .int .i64 f, .int .i64 h, .int .i64 r, .int .i64 v, .int .i64 x], .string s] w fun e w' => e = .returned (.bool true) ∧ Below w.heap.size w w' := by
  by_cases hs : ∃ k' f' h' r' v' x', goodC k' f' h' r' v' x' = 0 ∧ s = encB k' f' h' r' v' x'
  · obtain ⟨k', f', h', r', v', x', hg', rfl⟩ := hs
    by_cases hg : goodC k f h r v x = 0
    · exact back_gg k f h r v x k' f' h' r' v' x' w hg hg'
    · exact back_bg k f h r v x k' f' h' r' v' x' w (by rw [bne_iff_ne]; exact hg) (by rw [beq_eq_false_iff_ne]; exact hg) hg'
  · have hn : ∀ k f h r v x, goodC k f h r v x = 0 → s ≠ encB k f h r v x := fun k f h r v x hg he => hs ⟨k, f, h, r, v, x, hg, he⟩
    by_cases hg : goodC k f h r v x = 0
    · exact back_gn k f h r v x s w hg hm hn
    · exact back_bn k f h r v x s w (by rw [bne_iff_ne]; exact hg) (by rw [beq_eq_false_iff_ne]; exact hg) hm hn
end Go.Proofs.Ytmmgaonlmpajbaa
