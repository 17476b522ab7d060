/-
  For every word, text, height and round the statement WireTells' function returns true.
-/
import Derived.Test.YtmmgaonlmpajbaaRefDec
namespace Go.Proofs.Ytmmgaonlmpajbaa
open Go.RowKit

set_option maxHeartbeats 1000000 in
theorem lwires_any (w : World) :
    Calls Try.prog 23 #[] w fun e w' => e = .returned (.bool true) ∧ Below w.heap.size w w' := by
  have hg : goodC 1 1 1 0 7 (-1) = 0 := by decide
  have he : encB 1 1 1 0 7 (-1) = ⟨#[49, 49, 49, 48, 55, 45]⟩ := by decide
  have hl : lead 1 2 = 3 := by decide
  go_enter Try.func23, Try.ntmps23
  go_wp2_with (first | (go_at_call 15; refine (encode_good _ _ _ _ _ _ _ hg).mono ?_; rintro e w1 ⟨rfl, hb⟩) | (go_at_call 21; refine (leader_any _ _ _).mono ?_; rintro e w' ⟨rfl, rfl⟩))
  go_ret
  exact ⟨rfl, hb⟩
theorem six_keep {B : Nat} {k f h r v x : Int} {W W' : World} (hS : (W.cell? ⟨B, 0, none⟩ = some (.int .i64 k) ∧ W.cell? ⟨B, 1, none⟩ = some (.int .i64 f) ∧ W.cell? ⟨B, 2, none⟩ = some (.int .i64 h) ∧ W.cell? ⟨B, 3, none⟩ = some (.int .i64 r) ∧ W.cell? ⟨B, 4, none⟩ = some (.int .i64 v) ∧ W.cell? ⟨B, 5, none⟩ = some (.int .i64 x))) (hb : Below W.heap.size W W') : (W'.cell? ⟨B, 0, none⟩ = some (.int .i64 k) ∧ W'.cell? ⟨B, 1, none⟩ = some (.int .i64 f) ∧ W'.cell? ⟨B, 2, none⟩ = some (.int .i64 h) ∧ W'.cell? ⟨B, 3, none⟩ = some (.int .i64 r) ∧ W'.cell? ⟨B, 4, none⟩ = some (.int .i64 v) ∧ W'.cell? ⟨B, 5, none⟩ = some (.int .i64 x)) := by
  obtain ⟨c0, c1, c2, c3, c4, c5⟩ := hS
  have hlt : B < W.heap.size := World.block_lt_of_cell? W _ c0
  have e := fun o => hb.cell (p := ⟨B, o, none⟩) hlt
  exact ⟨(e 0).trans c0, (e 1).trans c1, (e 2).trans c2, (e 3).trans c3, (e 4).trans c4, (e 5).trans c5⟩

theorem keep18 {B0 B1 B2 : Nat} {k f h r v x k' f' h' r' v' x' : Int} {w W W' : World} (hS : (W.cell? ⟨B0, 0, none⟩ = some (.int .i64 k) ∧ W.cell? ⟨B0, 1, none⟩ = some (.int .i64 f) ∧ W.cell? ⟨B0, 2, none⟩ = some (.int .i64 h) ∧ W.cell? ⟨B0, 3, none⟩ = some (.int .i64 r) ∧ W.cell? ⟨B0, 4, none⟩ = some (.int .i64 v) ∧ W.cell? ⟨B0, 5, none⟩ = some (.int .i64 x)) ∧ (W.cell? ⟨B1, 0, none⟩ = some (.int .i64 k') ∧ W.cell? ⟨B1, 1, none⟩ = some (.int .i64 f') ∧ W.cell? ⟨B1, 2, none⟩ = some (.int .i64 h') ∧ W.cell? ⟨B1, 3, none⟩ = some (.int .i64 r') ∧ W.cell? ⟨B1, 4, none⟩ = some (.int .i64 v') ∧ W.cell? ⟨B1, 5, none⟩ = some (.int .i64 x')) ∧ (W.cell? ⟨B2, 0, none⟩ = some (.int .i64 k') ∧ W.cell? ⟨B2, 1, none⟩ = some (.int .i64 f') ∧ W.cell? ⟨B2, 2, none⟩ = some (.int .i64 h') ∧ W.cell? ⟨B2, 3, none⟩ = some (.int .i64 r') ∧ W.cell? ⟨B2, 4, none⟩ = some (.int .i64 v') ∧ W.cell? ⟨B2, 5, none⟩ = some (.int .i64 x')) ∧ Below w.heap.size w W) (hb : Below W.heap.size W W') : (W'.cell? ⟨B0, 0, none⟩ = some (.int .i64 k) ∧ W'.cell? ⟨B0, 1, none⟩ = some (.int .i64 f) ∧ W'.cell? ⟨B0, 2, none⟩ = some (.int .i64 h) ∧ W'.cell? ⟨B0, 3, none⟩ = some (.int .i64 r) ∧ W'.cell? ⟨B0, 4, none⟩ = some (.int .i64 v) ∧ W'.cell? ⟨B0, 5, none⟩ = some (.int .i64 x)) ∧ (W'.cell? ⟨B1, 0, none⟩ = some (.int .i64 k') ∧ W'.cell? ⟨B1, 1, none⟩ = some (.int .i64 f') ∧ W'.cell? ⟨B1, 2, none⟩ = some (.int .i64 h') ∧ W'.cell? ⟨B1, 3, none⟩ = some (.int .i64 r') ∧ W'.cell? ⟨B1, 4, none⟩ = some (.int .i64 v') ∧ W'.cell? ⟨B1, 5, none⟩ = some (.int .i64 x')) ∧ (W'.cell? ⟨B2, 0, none⟩ = some (.int .i64 k') ∧ W'.cell? ⟨B2, 1, none⟩ = some (.int .i64 f') ∧ W'.cell? ⟨B2, 2, none⟩ = some (.int .i64 h') ∧ W'.cell? ⟨B2, 3, none⟩ = some (.int .i64 r') ∧ W'.cell? ⟨B2, 4, none⟩ = some (.int .i64 v') ∧ W'.cell? ⟨B2, 5, none⟩ = some (.int .i64 x')) ∧ Below w.heap.size w W' :=
  ⟨six_keep hS.1 hb, six_keep hS.2.1 hb, six_keep hS.2.2.1 hb, bel_trans hS.2.2.2 hb⟩

theorem keep18_drew {B0 B1 B2 : Nat} {k f h r v x k' f' h' r' v' x' : Int} {w W : World} (hS : (W.cell? ⟨B0, 0, none⟩ = some (.int .i64 k) ∧ W.cell? ⟨B0, 1, none⟩ = some (.int .i64 f) ∧ W.cell? ⟨B0, 2, none⟩ = some (.int .i64 h) ∧ W.cell? ⟨B0, 3, none⟩ = some (.int .i64 r) ∧ W.cell? ⟨B0, 4, none⟩ = some (.int .i64 v) ∧ W.cell? ⟨B0, 5, none⟩ = some (.int .i64 x)) ∧ (W.cell? ⟨B1, 0, none⟩ = some (.int .i64 k') ∧ W.cell? ⟨B1, 1, none⟩ = some (.int .i64 f') ∧ W.cell? ⟨B1, 2, none⟩ = some (.int .i64 h') ∧ W.cell? ⟨B1, 3, none⟩ = some (.int .i64 r') ∧ W.cell? ⟨B1, 4, none⟩ = some (.int .i64 v') ∧ W.cell? ⟨B1, 5, none⟩ = some (.int .i64 x')) ∧ (W.cell? ⟨B2, 0, none⟩ = some (.int .i64 k') ∧ W.cell? ⟨B2, 1, none⟩ = some (.int .i64 f') ∧ W.cell? ⟨B2, 2, none⟩ = some (.int .i64 h') ∧ W.cell? ⟨B2, 3, none⟩ = some (.int .i64 r') ∧ W.cell? ⟨B2, 4, none⟩ = some (.int .i64 v') ∧ W.cell? ⟨B2, 5, none⟩ = some (.int .i64 x')) ∧ Below w.heap.size w W) : (W.drew.cell? ⟨B0, 0, none⟩ = some (.int .i64 k) ∧ W.drew.cell? ⟨B0, 1, none⟩ = some (.int .i64 f) ∧ W.drew.cell? ⟨B0, 2, none⟩ = some (.int .i64 h) ∧ W.drew.cell? ⟨B0, 3, none⟩ = some (.int .i64 r) ∧ W.drew.cell? ⟨B0, 4, none⟩ = some (.int .i64 v) ∧ W.drew.cell? ⟨B0, 5, none⟩ = some (.int .i64 x)) ∧ (W.drew.cell? ⟨B1, 0, none⟩ = some (.int .i64 k') ∧ W.drew.cell? ⟨B1, 1, none⟩ = some (.int .i64 f') ∧ W.drew.cell? ⟨B1, 2, none⟩ = some (.int .i64 h') ∧ W.drew.cell? ⟨B1, 3, none⟩ = some (.int .i64 r') ∧ W.drew.cell? ⟨B1, 4, none⟩ = some (.int .i64 v') ∧ W.drew.cell? ⟨B1, 5, none⟩ = some (.int .i64 x')) ∧ (W.drew.cell? ⟨B2, 0, none⟩ = some (.int .i64 k') ∧ W.drew.cell? ⟨B2, 1, none⟩ = some (.int .i64 f') ∧ W.drew.cell? ⟨B2, 2, none⟩ = some (.int .i64 h') ∧ W.drew.cell? ⟨B2, 3, none⟩ = some (.int .i64 r') ∧ W.drew.cell? ⟨B2, 4, none⟩ = some (.int .i64 v') ∧ W.drew.cell? ⟨B2, 5, none⟩ = some (.int .i64 x')) ∧ Below w.heap.size w W.drew :=
  ⟨hS.1, hS.2.1, hS.2.2.1, hS.2.2.2.drew⟩

theorem new6 (W : World) (k f h r v x : Int) : ((W.alloc (.cells #[.int .i64 k, .int .i64 f, .int .i64 h, .int .i64 r, .int .i64 v, .int .i64 x] 23)).cell? ⟨W.heap.size, 0, none⟩ = some (.int .i64 k) ∧ (W.alloc (.cells #[.int .i64 k, .int .i64 f, .int .i64 h, .int .i64 r, .int .i64 v, .int .i64 x] 23)).cell? ⟨W.heap.size, 1, none⟩ = some (.int .i64 f) ∧ (W.alloc (.cells #[.int .i64 k, .int .i64 f, .int .i64 h, .int .i64 r, .int .i64 v, .int .i64 x] 23)).cell? ⟨W.heap.size, 2, none⟩ = some (.int .i64 h) ∧ (W.alloc (.cells #[.int .i64 k, .int .i64 f, .int .i64 h, .int .i64 r, .int .i64 v, .int .i64 x] 23)).cell? ⟨W.heap.size, 3, none⟩ = some (.int .i64 r) ∧ (W.alloc (.cells #[.int .i64 k, .int .i64 f, .int .i64 h, .int .i64 r, .int .i64 v, .int .i64 x] 23)).cell? ⟨W.heap.size, 4, none⟩ = some (.int .i64 v) ∧ (W.alloc (.cells #[.int .i64 k, .int .i64 f, .int .i64 h, .int .i64 r, .int .i64 v, .int .i64 x] 23)).cell? ⟨W.heap.size, 5, none⟩ = some (.int .i64 x)) :=
  ⟨by simp [go_sem], by simp [go_sem], by simp [go_sem], by simp [go_sem], by simp [go_sem], by simp [go_sem]⟩

set_option maxHeartbeats 4000000 in
theorem tells_gg (k f h r v x : Int) (k' f' h' r' v' x' : Int) (H R : Int) (w : World) (hg : goodC k f h r v x = 0) (hg' : goodC k' f' h' r' v' x' = 0) :
    Calls Try.prog 3 #[.agg #[.int .i64 k, .int .i64 f, .int .i64 h, .int .i64 r, .int .i64 v, .int .i64 x], .string (encB k' f' h' r' v' x'), .int .i64 H, .int .i64 R] w fun e w' => e = .returned (.bool true) ∧ Below w.heap.size w w' := by
  go_enter Try.func3, Try.ntmps3
  go_wp2_with fail
  refine (encode_good _ _ _ _ _ _ _ hg).mono ?_
  rintro e w1 ⟨rfl, hb1⟩
  have s1 := six_keep (new6 w k f h r v x) hb1
  have hz1 : w.heap.size < w1.heap.size := size_past hb1
  go_wp2_with fail
  refine (encodeWord_good _ _ _ _ _ _ _ hg).mono ?_
  rintro e w2 ⟨rfl, hb2⟩
  have s2 := six_keep s1 hb2
  have hz2 : w.heap.size < w2.heap.size := Nat.lt_of_lt_of_le hz1 hb2.size
  go_wp2_with fail
  refine (decode_back _ _ _ _ _ _ _ hg').mono ?_
  rintro e w3 ⟨rfl, hb3⟩
  have s3 := six_keep s2 hb3
  go_wp2_with fail
  refine (decodeWord_back _ _ _ _ _ _ _ hg').mono ?_
  rintro e w4 ⟨rfl, hb4⟩
  go_wp2_with fail
  have bX : Below w3.heap.size w3 (w3.alloc (.cells #[.int .i64 k', .int .i64 f', .int .i64 h', .int .i64 r', .int .i64 v', .int .i64 x'] 23)) := (Below.refl _ _).alloc (Nat.le_refl _) _
  have bY : Below w4.heap.size w4 (w4.alloc (.cells #[.int .i64 k', .int .i64 f', .int .i64 h', .int .i64 r', .int .i64 v', .int .i64 x'] 23)) := (Below.refl _ _).alloc (Nat.le_refl _) _
  have hS : ((w4.alloc (.cells #[.int .i64 k', .int .i64 f', .int .i64 h', .int .i64 r', .int .i64 v', .int .i64 x'] 23)).cell? ⟨w.heap.size, 0, none⟩ = some (.int .i64 k) ∧ (w4.alloc (.cells #[.int .i64 k', .int .i64 f', .int .i64 h', .int .i64 r', .int .i64 v', .int .i64 x'] 23)).cell? ⟨w.heap.size, 1, none⟩ = some (.int .i64 f) ∧ (w4.alloc (.cells #[.int .i64 k', .int .i64 f', .int .i64 h', .int .i64 r', .int .i64 v', .int .i64 x'] 23)).cell? ⟨w.heap.size, 2, none⟩ = some (.int .i64 h) ∧ (w4.alloc (.cells #[.int .i64 k', .int .i64 f', .int .i64 h', .int .i64 r', .int .i64 v', .int .i64 x'] 23)).cell? ⟨w.heap.size, 3, none⟩ = some (.int .i64 r) ∧ (w4.alloc (.cells #[.int .i64 k', .int .i64 f', .int .i64 h', .int .i64 r', .int .i64 v', .int .i64 x'] 23)).cell? ⟨w.heap.size, 4, none⟩ = some (.int .i64 v) ∧ (w4.alloc (.cells #[.int .i64 k', .int .i64 f', .int .i64 h', .int .i64 r', .int .i64 v', .int .i64 x'] 23)).cell? ⟨w.heap.size, 5, none⟩ = some (.int .i64 x)) ∧ ((w4.alloc (.cells #[.int .i64 k', .int .i64 f', .int .i64 h', .int .i64 r', .int .i64 v', .int .i64 x'] 23)).cell? ⟨w3.heap.size, 0, none⟩ = some (.int .i64 k') ∧ (w4.alloc (.cells #[.int .i64 k', .int .i64 f', .int .i64 h', .int .i64 r', .int .i64 v', .int .i64 x'] 23)).cell? ⟨w3.heap.size, 1, none⟩ = some (.int .i64 f') ∧ (w4.alloc (.cells #[.int .i64 k', .int .i64 f', .int .i64 h', .int .i64 r', .int .i64 v', .int .i64 x'] 23)).cell? ⟨w3.heap.size, 2, none⟩ = some (.int .i64 h') ∧ (w4.alloc (.cells #[.int .i64 k', .int .i64 f', .int .i64 h', .int .i64 r', .int .i64 v', .int .i64 x'] 23)).cell? ⟨w3.heap.size, 3, none⟩ = some (.int .i64 r') ∧ (w4.alloc (.cells #[.int .i64 k', .int .i64 f', .int .i64 h', .int .i64 r', .int .i64 v', .int .i64 x'] 23)).cell? ⟨w3.heap.size, 4, none⟩ = some (.int .i64 v') ∧ (w4.alloc (.cells #[.int .i64 k', .int .i64 f', .int .i64 h', .int .i64 r', .int .i64 v', .int .i64 x'] 23)).cell? ⟨w3.heap.size, 5, none⟩ = some (.int .i64 x')) ∧ ((w4.alloc (.cells #[.int .i64 k', .int .i64 f', .int .i64 h', .int .i64 r', .int .i64 v', .int .i64 x'] 23)).cell? ⟨w4.heap.size, 0, none⟩ = some (.int .i64 k') ∧ (w4.alloc (.cells #[.int .i64 k', .int .i64 f', .int .i64 h', .int .i64 r', .int .i64 v', .int .i64 x'] 23)).cell? ⟨w4.heap.size, 1, none⟩ = some (.int .i64 f') ∧ (w4.alloc (.cells #[.int .i64 k', .int .i64 f', .int .i64 h', .int .i64 r', .int .i64 v', .int .i64 x'] 23)).cell? ⟨w4.heap.size, 2, none⟩ = some (.int .i64 h') ∧ (w4.alloc (.cells #[.int .i64 k', .int .i64 f', .int .i64 h', .int .i64 r', .int .i64 v', .int .i64 x'] 23)).cell? ⟨w4.heap.size, 3, none⟩ = some (.int .i64 r') ∧ (w4.alloc (.cells #[.int .i64 k', .int .i64 f', .int .i64 h', .int .i64 r', .int .i64 v', .int .i64 x'] 23)).cell? ⟨w4.heap.size, 4, none⟩ = some (.int .i64 v') ∧ (w4.alloc (.cells #[.int .i64 k', .int .i64 f', .int .i64 h', .int .i64 r', .int .i64 v', .int .i64 x'] 23)).cell? ⟨w4.heap.size, 5, none⟩ = some (.int .i64 x')) ∧ Below w.heap.size w (w4.alloc (.cells #[.int .i64 k', .int .i64 f', .int .i64 h', .int .i64 r', .int .i64 v', .int .i64 x'] 23)) :=
    ⟨six_keep (six_keep (six_keep s3 bX) hb4) bY, six_keep (six_keep (new6 w3 k' f' h' r' v' x') hb4) bY, new6 w4 k' f' h' r' v' x', bel_trans (bel_trans (bel_trans (bel_trans (bel_trans (below_past hb1) hb2) hb3) bX) hb4) bY⟩
  clear bX bY hb1 hb2 hb3 hb4 s1 s2 s3 hz1 hz2
  go_region_held (fun W => (W.cell? ⟨w.heap.size, 0, none⟩ = some (.int .i64 k) ∧ W.cell? ⟨w.heap.size, 1, none⟩ = some (.int .i64 f) ∧ W.cell? ⟨w.heap.size, 2, none⟩ = some (.int .i64 h) ∧ W.cell? ⟨w.heap.size, 3, none⟩ = some (.int .i64 r) ∧ W.cell? ⟨w.heap.size, 4, none⟩ = some (.int .i64 v) ∧ W.cell? ⟨w.heap.size, 5, none⟩ = some (.int .i64 x)) ∧ (W.cell? ⟨w3.heap.size, 0, none⟩ = some (.int .i64 k') ∧ W.cell? ⟨w3.heap.size, 1, none⟩ = some (.int .i64 f') ∧ W.cell? ⟨w3.heap.size, 2, none⟩ = some (.int .i64 h') ∧ W.cell? ⟨w3.heap.size, 3, none⟩ = some (.int .i64 r') ∧ W.cell? ⟨w3.heap.size, 4, none⟩ = some (.int .i64 v') ∧ W.cell? ⟨w3.heap.size, 5, none⟩ = some (.int .i64 x')) ∧ (W.cell? ⟨w4.heap.size, 0, none⟩ = some (.int .i64 k') ∧ W.cell? ⟨w4.heap.size, 1, none⟩ = some (.int .i64 f') ∧ W.cell? ⟨w4.heap.size, 2, none⟩ = some (.int .i64 h') ∧ W.cell? ⟨w4.heap.size, 3, none⟩ = some (.int .i64 r') ∧ W.cell? ⟨w4.heap.size, 4, none⟩ = some (.int .i64 v') ∧ W.cell? ⟨w4.heap.size, 5, none⟩ = some (.int .i64 x')) ∧ Below w.heap.size w W) (first | exact keep18_drew hS | exact keep18 (by assumption) hb5 | assumption) ((first | (go_at_call 19; refine (good_any _ _ _ _ _ _ _).mono ?_; rintro e w5 ⟨rfl, hb5⟩) | (go_at_call 20; refine (wordError_any _ _ _ _ _ _ _).mono ?_; rintro e w5 ⟨rfl, hb5⟩) | (go_at_call 21; refine (leader_any _ _ _).mono ?_; rintro e w5 ⟨rfl, rfl⟩) | (go_at_call 22; refine (leaderOf_any _ _ _).mono ?_; rintro e w5 ⟨rfl, rfl⟩) | (go_at_call 23; refine (lwires_any _).mono ?_; rintro e w5 ⟨rfl, hb5⟩)))
  go_wp2
  go_ret
  rename_i hh
  exact ⟨rfl, hh.2.2.2⟩

set_option maxHeartbeats 4000000 in
theorem tells_gn (k f h r v x : Int) (s : ByteArray) (H R : Int) (w : World) (hg : goodC k f h r v x = 0) (hm : s.size ≤ maxLen) (hn : ∀ k f h r v x, goodC k f h r v x = 0 → s ≠ encB k f h r v x) :
    Calls Try.prog 3 #[.agg #[.int .i64 k, .int .i64 f, .int .i64 h, .int .i64 r, .int .i64 v, .int .i64 x], .string s, .int .i64 H, .int .i64 R] w fun e w' => e = .returned (.bool true) ∧ Below w.heap.size w w' := by
  have HN : Hid (∀ k f h r v x, goodC k f h r v x = 0 → s ≠ encB k f h r v x) := hn
  clear hn
  go_enter Try.func3, Try.ntmps3
  go_wp2_with fail
  refine (encode_good _ _ _ _ _ _ _ hg).mono ?_
  rintro e w1 ⟨rfl, hb1⟩
  have s1 := six_keep (new6 w k f h r v x) hb1
  have hz1 : w.heap.size < w1.heap.size := size_past hb1
  go_wp2_with fail
  refine (encodeWord_good _ _ _ _ _ _ _ hg).mono ?_
  rintro e w2 ⟨rfl, hb2⟩
  have s2 := six_keep s1 hb2
  have hz2 : w.heap.size < w2.heap.size := Nat.lt_of_lt_of_le hz1 hb2.size
  go_wp2_with fail
  refine (decode_none _ _ hm HN.out).mono ?_
  rintro e w3 ⟨rfl, hb3⟩
  have s3 := six_keep s2 hb3
  go_wp2_with fail
  refine (decodeWord_none _ _ hm HN.out).mono ?_
  rintro e w4 ⟨rfl, hb4⟩
  go_wp2_with fail
  have bX : Below w3.heap.size w3 (w3.alloc (.cells #[.int .i64 0, .int .i64 0, .int .i64 0, .int .i64 0, .int .i64 0, .int .i64 0] 23)) := (Below.refl _ _).alloc (Nat.le_refl _) _
  have bY : Below w4.heap.size w4 (w4.alloc (.cells #[.int .i64 0, .int .i64 0, .int .i64 0, .int .i64 0, .int .i64 0, .int .i64 0] 23)) := (Below.refl _ _).alloc (Nat.le_refl _) _
  have hS : ((w4.alloc (.cells #[.int .i64 0, .int .i64 0, .int .i64 0, .int .i64 0, .int .i64 0, .int .i64 0] 23)).cell? ⟨w.heap.size, 0, none⟩ = some (.int .i64 k) ∧ (w4.alloc (.cells #[.int .i64 0, .int .i64 0, .int .i64 0, .int .i64 0, .int .i64 0, .int .i64 0] 23)).cell? ⟨w.heap.size, 1, none⟩ = some (.int .i64 f) ∧ (w4.alloc (.cells #[.int .i64 0, .int .i64 0, .int .i64 0, .int .i64 0, .int .i64 0, .int .i64 0] 23)).cell? ⟨w.heap.size, 2, none⟩ = some (.int .i64 h) ∧ (w4.alloc (.cells #[.int .i64 0, .int .i64 0, .int .i64 0, .int .i64 0, .int .i64 0, .int .i64 0] 23)).cell? ⟨w.heap.size, 3, none⟩ = some (.int .i64 r) ∧ (w4.alloc (.cells #[.int .i64 0, .int .i64 0, .int .i64 0, .int .i64 0, .int .i64 0, .int .i64 0] 23)).cell? ⟨w.heap.size, 4, none⟩ = some (.int .i64 v) ∧ (w4.alloc (.cells #[.int .i64 0, .int .i64 0, .int .i64 0, .int .i64 0, .int .i64 0, .int .i64 0] 23)).cell? ⟨w.heap.size, 5, none⟩ = some (.int .i64 x)) ∧ ((w4.alloc (.cells #[.int .i64 0, .int .i64 0, .int .i64 0, .int .i64 0, .int .i64 0, .int .i64 0] 23)).cell? ⟨w3.heap.size, 0, none⟩ = some (.int .i64 0) ∧ (w4.alloc (.cells #[.int .i64 0, .int .i64 0, .int .i64 0, .int .i64 0, .int .i64 0, .int .i64 0] 23)).cell? ⟨w3.heap.size, 1, none⟩ = some (.int .i64 0) ∧ (w4.alloc (.cells #[.int .i64 0, .int .i64 0, .int .i64 0, .int .i64 0, .int .i64 0, .int .i64 0] 23)).cell? ⟨w3.heap.size, 2, none⟩ = some (.int .i64 0) ∧ (w4.alloc (.cells #[.int .i64 0, .int .i64 0, .int .i64 0, .int .i64 0, .int .i64 0, .int .i64 0] 23)).cell? ⟨w3.heap.size, 3, none⟩ = some (.int .i64 0) ∧ (w4.alloc (.cells #[.int .i64 0, .int .i64 0, .int .i64 0, .int .i64 0, .int .i64 0, .int .i64 0] 23)).cell? ⟨w3.heap.size, 4, none⟩ = some (.int .i64 0) ∧ (w4.alloc (.cells #[.int .i64 0, .int .i64 0, .int .i64 0, .int .i64 0, .int .i64 0, .int .i64 0] 23)).cell? ⟨w3.heap.size, 5, none⟩ = some (.int .i64 0)) ∧ ((w4.alloc (.cells #[.int .i64 0, .int .i64 0, .int .i64 0, .int .i64 0, .int .i64 0, .int .i64 0] 23)).cell? ⟨w4.heap.size, 0, none⟩ = some (.int .i64 0) ∧ (w4.alloc (.cells #[.int .i64 0, .int .i64 0, .int .i64 0, .int .i64 0, .int .i64 0, .int .i64 0] 23)).cell? ⟨w4.heap.size, 1, none⟩ = some (.int .i64 0) ∧ (w4.alloc (.cells #[.int .i64 0, .int .i64 0, .int .i64 0, .int .i64 0, .int .i64 0, .int .i64 0] 23)).cell? ⟨w4.heap.size, 2, none⟩ = some (.int .i64 0) ∧ (w4.alloc (.cells #[.int .i64 0, .int .i64 0, .int .i64 0, .int .i64 0, .int .i64 0, .int .i64 0] 23)).cell? ⟨w4.heap.size, 3, none⟩ = some (.int .i64 0) ∧ (w4.alloc (.cells #[.int .i64 0, .int .i64 0, .int .i64 0, .int .i64 0, .int .i64 0, .int .i64 0] 23)).cell? ⟨w4.heap.size, 4, none⟩ = some (.int .i64 0) ∧ (w4.alloc (.cells #[.int .i64 0, .int .i64 0, .int .i64 0, .int .i64 0, .int .i64 0, .int .i64 0] 23)).cell? ⟨w4.heap.size, 5, none⟩ = some (.int .i64 0)) ∧ Below w.heap.size w (w4.alloc (.cells #[.int .i64 0, .int .i64 0, .int .i64 0, .int .i64 0, .int .i64 0, .int .i64 0] 23)) :=
    ⟨six_keep (six_keep (six_keep s3 bX) hb4) bY, six_keep (six_keep (new6 w3 0 0 0 0 0 0) hb4) bY, new6 w4 0 0 0 0 0 0, bel_trans (bel_trans (bel_trans (bel_trans (bel_trans (below_past hb1) hb2) hb3) bX) hb4) bY⟩
  clear bX bY hb1 hb2 hb3 hb4 s1 s2 s3 hz1 hz2
  go_region_held (fun W => (W.cell? ⟨w.heap.size, 0, none⟩ = some (.int .i64 k) ∧ W.cell? ⟨w.heap.size, 1, none⟩ = some (.int .i64 f) ∧ W.cell? ⟨w.heap.size, 2, none⟩ = some (.int .i64 h) ∧ W.cell? ⟨w.heap.size, 3, none⟩ = some (.int .i64 r) ∧ W.cell? ⟨w.heap.size, 4, none⟩ = some (.int .i64 v) ∧ W.cell? ⟨w.heap.size, 5, none⟩ = some (.int .i64 x)) ∧ (W.cell? ⟨w3.heap.size, 0, none⟩ = some (.int .i64 0) ∧ W.cell? ⟨w3.heap.size, 1, none⟩ = some (.int .i64 0) ∧ W.cell? ⟨w3.heap.size, 2, none⟩ = some (.int .i64 0) ∧ W.cell? ⟨w3.heap.size, 3, none⟩ = some (.int .i64 0) ∧ W.cell? ⟨w3.heap.size, 4, none⟩ = some (.int .i64 0) ∧ W.cell? ⟨w3.heap.size, 5, none⟩ = some (.int .i64 0)) ∧ (W.cell? ⟨w4.heap.size, 0, none⟩ = some (.int .i64 0) ∧ W.cell? ⟨w4.heap.size, 1, none⟩ = some (.int .i64 0) ∧ W.cell? ⟨w4.heap.size, 2, none⟩ = some (.int .i64 0) ∧ W.cell? ⟨w4.heap.size, 3, none⟩ = some (.int .i64 0) ∧ W.cell? ⟨w4.heap.size, 4, none⟩ = some (.int .i64 0) ∧ W.cell? ⟨w4.heap.size, 5, none⟩ = some (.int .i64 0)) ∧ Below w.heap.size w W) (first | exact keep18_drew hS | exact keep18 (by assumption) hb5 | assumption) ((first | (go_at_call 19; refine (good_any _ _ _ _ _ _ _).mono ?_; rintro e w5 ⟨rfl, hb5⟩) | (go_at_call 20; refine (wordError_any _ _ _ _ _ _ _).mono ?_; rintro e w5 ⟨rfl, hb5⟩) | (go_at_call 21; refine (leader_any _ _ _).mono ?_; rintro e w5 ⟨rfl, rfl⟩) | (go_at_call 22; refine (leaderOf_any _ _ _).mono ?_; rintro e w5 ⟨rfl, rfl⟩) | (go_at_call 23; refine (lwires_any _).mono ?_; rintro e w5 ⟨rfl, hb5⟩)))
  go_wp2
  go_ret
  rename_i hh
  exact ⟨rfl, hh.2.2.2⟩

set_option maxHeartbeats 4000000 in
theorem tells_bg (k f h r v x : Int) (k' f' h' r' v' x' : Int) (H R : Int) (w : World) (hg : (goodC k f h r v x != 0) = true) (hg' : goodC k' f' h' r' v' x' = 0) :
    Calls Try.prog 3 #[.agg #[.int .i64 k, .int .i64 f, .int .i64 h, .int .i64 r, .int .i64 v, .int .i64 x], .string (encB k' f' h' r' v' x'), .int .i64 H, .int .i64 R] w fun e w' => e = .returned (.bool true) ∧ Below w.heap.size w w' := by
  go_enter Try.func3, Try.ntmps3
  go_wp2_with fail
  refine (encode_bad _ _ _ _ _ _ _ hg).mono ?_
  rintro e w1 ⟨rfl, hb1⟩
  have s1 := six_keep (new6 w k f h r v x) hb1
  have hz1 : w.heap.size < w1.heap.size := size_past hb1
  go_wp2_with fail
  refine (encodeWord_bad _ _ _ _ _ _ _ hg).mono ?_
  rintro e w2 ⟨rfl, hb2⟩
  have s2 := six_keep s1 hb2
  have hz2 : w.heap.size < w2.heap.size := Nat.lt_of_lt_of_le hz1 hb2.size
  go_wp2_with fail
  refine (decode_back _ _ _ _ _ _ _ hg').mono ?_
  rintro e w3 ⟨rfl, hb3⟩
  have s3 := six_keep s2 hb3
  go_wp2_with fail
  refine (decodeWord_back _ _ _ _ _ _ _ hg').mono ?_
  rintro e w4 ⟨rfl, hb4⟩
  go_wp2_with fail
  have bX : Below w3.heap.size w3 (w3.alloc (.cells #[.int .i64 k', .int .i64 f', .int .i64 h', .int .i64 r', .int .i64 v', .int .i64 x'] 23)) := (Below.refl _ _).alloc (Nat.le_refl _) _
  have bY : Below w4.heap.size w4 (w4.alloc (.cells #[.int .i64 k', .int .i64 f', .int .i64 h', .int .i64 r', .int .i64 v', .int .i64 x'] 23)) := (Below.refl _ _).alloc (Nat.le_refl _) _
  have hS : ((w4.alloc (.cells #[.int .i64 k', .int .i64 f', .int .i64 h', .int .i64 r', .int .i64 v', .int .i64 x'] 23)).cell? ⟨w.heap.size, 0, none⟩ = some (.int .i64 k) ∧ (w4.alloc (.cells #[.int .i64 k', .int .i64 f', .int .i64 h', .int .i64 r', .int .i64 v', .int .i64 x'] 23)).cell? ⟨w.heap.size, 1, none⟩ = some (.int .i64 f) ∧ (w4.alloc (.cells #[.int .i64 k', .int .i64 f', .int .i64 h', .int .i64 r', .int .i64 v', .int .i64 x'] 23)).cell? ⟨w.heap.size, 2, none⟩ = some (.int .i64 h) ∧ (w4.alloc (.cells #[.int .i64 k', .int .i64 f', .int .i64 h', .int .i64 r', .int .i64 v', .int .i64 x'] 23)).cell? ⟨w.heap.size, 3, none⟩ = some (.int .i64 r) ∧ (w4.alloc (.cells #[.int .i64 k', .int .i64 f', .int .i64 h', .int .i64 r', .int .i64 v', .int .i64 x'] 23)).cell? ⟨w.heap.size, 4, none⟩ = some (.int .i64 v) ∧ (w4.alloc (.cells #[.int .i64 k', .int .i64 f', .int .i64 h', .int .i64 r', .int .i64 v', .int .i64 x'] 23)).cell? ⟨w.heap.size, 5, none⟩ = some (.int .i64 x)) ∧ ((w4.alloc (.cells #[.int .i64 k', .int .i64 f', .int .i64 h', .int .i64 r', .int .i64 v', .int .i64 x'] 23)).cell? ⟨w3.heap.size, 0, none⟩ = some (.int .i64 k') ∧ (w4.alloc (.cells #[.int .i64 k', .int .i64 f', .int .i64 h', .int .i64 r', .int .i64 v', .int .i64 x'] 23)).cell? ⟨w3.heap.size, 1, none⟩ = some (.int .i64 f') ∧ (w4.alloc (.cells #[.int .i64 k', .int .i64 f', .int .i64 h', .int .i64 r', .int .i64 v', .int .i64 x'] 23)).cell? ⟨w3.heap.size, 2, none⟩ = some (.int .i64 h') ∧ (w4.alloc (.cells #[.int .i64 k', .int .i64 f', .int .i64 h', .int .i64 r', .int .i64 v', .int .i64 x'] 23)).cell? ⟨w3.heap.size, 3, none⟩ = some (.int .i64 r') ∧ (w4.alloc (.cells #[.int .i64 k', .int .i64 f', .int .i64 h', .int .i64 r', .int .i64 v', .int .i64 x'] 23)).cell? ⟨w3.heap.size, 4, none⟩ = some (.int .i64 v') ∧ (w4.alloc (.cells #[.int .i64 k', .int .i64 f', .int .i64 h', .int .i64 r', .int .i64 v', .int .i64 x'] 23)).cell? ⟨w3.heap.size, 5, none⟩ = some (.int .i64 x')) ∧ ((w4.alloc (.cells #[.int .i64 k', .int .i64 f', .int .i64 h', .int .i64 r', .int .i64 v', .int .i64 x'] 23)).cell? ⟨w4.heap.size, 0, none⟩ = some (.int .i64 k') ∧ (w4.alloc (.cells #[.int .i64 k', .int .i64 f', .int .i64 h', .int .i64 r', .int .i64 v', .int .i64 x'] 23)).cell? ⟨w4.heap.size, 1, none⟩ = some (.int .i64 f') ∧ (w4.alloc (.cells #[.int .i64 k', .int .i64 f', .int .i64 h', .int .i64 r', .int .i64 v', .int .i64 x'] 23)).cell? ⟨w4.heap.size, 2, none⟩ = some (.int .i64 h') ∧ (w4.alloc (.cells #[.int .i64 k', .int .i64 f', .int .i64 h', .int .i64 r', .int .i64 v', .int .i64 x'] 23)).cell? ⟨w4.heap.size, 3, none⟩ = some (.int .i64 r') ∧ (w4.alloc (.cells #[.int .i64 k', .int .i64 f', .int .i64 h', .int .i64 r', .int .i64 v', .int .i64 x'] 23)).cell? ⟨w4.heap.size, 4, none⟩ = some (.int .i64 v') ∧ (w4.alloc (.cells #[.int .i64 k', .int .i64 f', .int .i64 h', .int .i64 r', .int .i64 v', .int .i64 x'] 23)).cell? ⟨w4.heap.size, 5, none⟩ = some (.int .i64 x')) ∧ Below w.heap.size w (w4.alloc (.cells #[.int .i64 k', .int .i64 f', .int .i64 h', .int .i64 r', .int .i64 v', .int .i64 x'] 23)) :=
    ⟨six_keep (six_keep (six_keep s3 bX) hb4) bY, six_keep (six_keep (new6 w3 k' f' h' r' v' x') hb4) bY, new6 w4 k' f' h' r' v' x', bel_trans (bel_trans (bel_trans (bel_trans (bel_trans (below_past hb1) hb2) hb3) bX) hb4) bY⟩
  clear bX bY hb1 hb2 hb3 hb4 s1 s2 s3 hz1 hz2
  go_region_held (fun W => (W.cell? ⟨w.heap.size, 0, none⟩ = some (.int .i64 k) ∧ W.cell? ⟨w.heap.size, 1, none⟩ = some (.int .i64 f) ∧ W.cell? ⟨w.heap.size, 2, none⟩ = some (.int .i64 h) ∧ W.cell? ⟨w.heap.size, 3, none⟩ = some (.int .i64 r) ∧ W.cell? ⟨w.heap.size, 4, none⟩ = some (.int .i64 v) ∧ W.cell? ⟨w.heap.size, 5, none⟩ = some (.int .i64 x)) ∧ (W.cell? ⟨w3.heap.size, 0, none⟩ = some (.int .i64 k') ∧ W.cell? ⟨w3.heap.size, 1, none⟩ = some (.int .i64 f') ∧ W.cell? ⟨w3.heap.size, 2, none⟩ = some (.int .i64 h') ∧ W.cell? ⟨w3.heap.size, 3, none⟩ = some (.int .i64 r') ∧ W.cell? ⟨w3.heap.size, 4, none⟩ = some (.int .i64 v') ∧ W.cell? ⟨w3.heap.size, 5, none⟩ = some (.int .i64 x')) ∧ (W.cell? ⟨w4.heap.size, 0, none⟩ = some (.int .i64 k') ∧ W.cell? ⟨w4.heap.size, 1, none⟩ = some (.int .i64 f') ∧ W.cell? ⟨w4.heap.size, 2, none⟩ = some (.int .i64 h') ∧ W.cell? ⟨w4.heap.size, 3, none⟩ = some (.int .i64 r') ∧ W.cell? ⟨w4.heap.size, 4, none⟩ = some (.int .i64 v') ∧ W.cell? ⟨w4.heap.size, 5, none⟩ = some (.int .i64 x')) ∧ Below w.heap.size w W) (first | exact keep18_drew hS | exact keep18 (by assumption) hb5 | assumption) ((first | (go_at_call 19; refine (good_any _ _ _ _ _ _ _).mono ?_; rintro e w5 ⟨rfl, hb5⟩) | (go_at_call 20; refine (wordError_any _ _ _ _ _ _ _).mono ?_; rintro e w5 ⟨rfl, hb5⟩) | (go_at_call 21; refine (leader_any _ _ _).mono ?_; rintro e w5 ⟨rfl, rfl⟩) | (go_at_call 22; refine (leaderOf_any _ _ _).mono ?_; rintro e w5 ⟨rfl, rfl⟩) | (go_at_call 23; refine (lwires_any _).mono ?_; rintro e w5 ⟨rfl, hb5⟩)))
  go_wp2
  go_ret
  rename_i hh
  exact ⟨rfl, hh.2.2.2⟩

set_option maxHeartbeats 4000000 in
theorem tells_bn (k f h r v x : Int) (s : ByteArray) (H R : Int) (w : World) (hg : (goodC k f h r v x != 0) = true) (hm : s.size ≤ maxLen) (hn : ∀ k f h r v x, goodC k f h r v x = 0 → s ≠ encB k f h r v x) :
    Calls Try.prog 3 #[.agg #[.int .i64 k, .int .i64 f, .int .i64 h, .int .i64 r, .int .i64 v, .int .i64 x], .string s, .int .i64 H, .int .i64 R] w fun e w' => e = .returned (.bool true) ∧ Below w.heap.size w w' := by
  have HN : Hid (∀ k f h r v x, goodC k f h r v x = 0 → s ≠ encB k f h r v x) := hn
  clear hn
  go_enter Try.func3, Try.ntmps3
  go_wp2_with fail
  refine (encode_bad _ _ _ _ _ _ _ hg).mono ?_
  rintro e w1 ⟨rfl, hb1⟩
  have s1 := six_keep (new6 w k f h r v x) hb1
  have hz1 : w.heap.size < w1.heap.size := size_past hb1
  go_wp2_with fail
  refine (encodeWord_bad _ _ _ _ _ _ _ hg).mono ?_
  rintro e w2 ⟨rfl, hb2⟩
  have s2 := six_keep s1 hb2
  have hz2 : w.heap.size < w2.heap.size := Nat.lt_of_lt_of_le hz1 hb2.size
  go_wp2_with fail
  refine (decode_none _ _ hm HN.out).mono ?_
  rintro e w3 ⟨rfl, hb3⟩
  have s3 := six_keep s2 hb3
  go_wp2_with fail
  refine (decodeWord_none _ _ hm HN.out).mono ?_
  rintro e w4 ⟨rfl, hb4⟩
  go_wp2_with fail
  have bX : Below w3.heap.size w3 (w3.alloc (.cells #[.int .i64 0, .int .i64 0, .int .i64 0, .int .i64 0, .int .i64 0, .int .i64 0] 23)) := (Below.refl _ _).alloc (Nat.le_refl _) _
  have bY : Below w4.heap.size w4 (w4.alloc (.cells #[.int .i64 0, .int .i64 0, .int .i64 0, .int .i64 0, .int .i64 0, .int .i64 0] 23)) := (Below.refl _ _).alloc (Nat.le_refl _) _
  have hS : ((w4.alloc (.cells #[.int .i64 0, .int .i64 0, .int .i64 0, .int .i64 0, .int .i64 0, .int .i64 0] 23)).cell? ⟨w.heap.size, 0, none⟩ = some (.int .i64 k) ∧ (w4.alloc (.cells #[.int .i64 0, .int .i64 0, .int .i64 0, .int .i64 0, .int .i64 0, .int .i64 0] 23)).cell? ⟨w.heap.size, 1, none⟩ = some (.int .i64 f) ∧ (w4.alloc (.cells #[.int .i64 0, .int .i64 0, .int .i64 0, .int .i64 0, .int .i64 0, .int .i64 0] 23)).cell? ⟨w.heap.size, 2, none⟩ = some (.int .i64 h) ∧ (w4.alloc (.cells #[.int .i64 0, .int .i64 0, .int .i64 0, .int .i64 0, .int .i64 0, .int .i64 0] 23)).cell? ⟨w.heap.size, 3, none⟩ = some (.int .i64 r) ∧ (w4.alloc (.cells #[.int .i64 0, .int .i64 0, .int .i64 0, .int .i64 0, .int .i64 0, .int .i64 0] 23)).cell? ⟨w.heap.size, 4, none⟩ = some (.int .i64 v) ∧ (w4.alloc (.cells #[.int .i64 0, .int .i64 0, .int .i64 0, .int .i64 0, .int .i64 0, .int .i64 0] 23)).cell? ⟨w.heap.size, 5, none⟩ = some (.int .i64 x)) ∧ ((w4.alloc (.cells #[.int .i64 0, .int .i64 0, .int .i64 0, .int .i64 0, .int .i64 0, .int .i64 0] 23)).cell? ⟨w3.heap.size, 0, none⟩ = some (.int .i64 0) ∧ (w4.alloc (.cells #[.int .i64 0, .int .i64 0, .int .i64 0, .int .i64 0, .int .i64 0, .int .i64 0] 23)).cell? ⟨w3.heap.size, 1, none⟩ = some (.int .i64 0) ∧ (w4.alloc (.cells #[.int .i64 0, .int .i64 0, .int .i64 0, .int .i64 0, .int .i64 0, .int .i64 0] 23)).cell? ⟨w3.heap.size, 2, none⟩ = some (.int .i64 0) ∧ (w4.alloc (.cells #[.int .i64 0, .int .i64 0, .int .i64 0, .int .i64 0, .int .i64 0, .int .i64 0] 23)).cell? ⟨w3.heap.size, 3, none⟩ = some (.int .i64 0) ∧ (w4.alloc (.cells #[.int .i64 0, .int .i64 0, .int .i64 0, .int .i64 0, .int .i64 0, .int .i64 0] 23)).cell? ⟨w3.heap.size, 4, none⟩ = some (.int .i64 0) ∧ (w4.alloc (.cells #[.int .i64 0, .int .i64 0, .int .i64 0, .int .i64 0, .int .i64 0, .int .i64 0] 23)).cell? ⟨w3.heap.size, 5, none⟩ = some (.int .i64 0)) ∧ ((w4.alloc (.cells #[.int .i64 0, .int .i64 0, .int .i64 0, .int .i64 0, .int .i64 0, .int .i64 0] 23)).cell? ⟨w4.heap.size, 0, none⟩ = some (.int .i64 0) ∧ (w4.alloc (.cells #[.int .i64 0, .int .i64 0, .int .i64 0, .int .i64 0, .int .i64 0, .int .i64 0] 23)).cell? ⟨w4.heap.size, 1, none⟩ = some (.int .i64 0) ∧ (w4.alloc (.cells #[.int .i64 0, .int .i64 0, .int .i64 0, .int .i64 0, .int .i64 0, .int .i64 0] 23)).cell? ⟨w4.heap.size, 2, none⟩ = some (.int .i64 0) ∧ (w4.alloc (.cells #[.int .i64 0, .int .i64 0, .int .i64 0, .int .i64 0, .int .i64 0, .int .i64 0] 23)).cell? ⟨w4.heap.size, 3, none⟩ = some (.int .i64 0) ∧ (w4.alloc (.cells #[.int .i64 0, .int .i64 0, .int .i64 0, .int .i64 0, .int .i64 0, .int .i64 0] 23)).cell? ⟨w4.heap.size, 4, none⟩ = some (.int .i64 0) ∧ (w4.alloc (.cells #[.int .i64 0, .int .i64 0, .int .i64 0, .int .i64 0, .int .i64 0, .int .i64 0] 23)).cell? ⟨w4.heap.size, 5, none⟩ = some (.int .i64 0)) ∧ Below w.heap.size w (w4.alloc (.cells #[.int .i64 0, .int .i64 0, .int .i64 0, .int .i64 0, .int .i64 0, .int .i64 0] 23)) :=
    ⟨six_keep (six_keep (six_keep s3 bX) hb4) bY, six_keep (six_keep (new6 w3 0 0 0 0 0 0) hb4) bY, new6 w4 0 0 0 0 0 0, bel_trans (bel_trans (bel_trans (bel_trans (bel_trans (below_past hb1) hb2) hb3) bX) hb4) bY⟩
  clear bX bY hb1 hb2 hb3 hb4 s1 s2 s3 hz1 hz2
  go_region_held (fun W => (W.cell? ⟨w.heap.size, 0, none⟩ = some (.int .i64 k) ∧ W.cell? ⟨w.heap.size, 1, none⟩ = some (.int .i64 f) ∧ W.cell? ⟨w.heap.size, 2, none⟩ = some (.int .i64 h) ∧ W.cell? ⟨w.heap.size, 3, none⟩ = some (.int .i64 r) ∧ W.cell? ⟨w.heap.size, 4, none⟩ = some (.int .i64 v) ∧ W.cell? ⟨w.heap.size, 5, none⟩ = some (.int .i64 x)) ∧ (W.cell? ⟨w3.heap.size, 0, none⟩ = some (.int .i64 0) ∧ W.cell? ⟨w3.heap.size, 1, none⟩ = some (.int .i64 0) ∧ W.cell? ⟨w3.heap.size, 2, none⟩ = some (.int .i64 0) ∧ W.cell? ⟨w3.heap.size, 3, none⟩ = some (.int .i64 0) ∧ W.cell? ⟨w3.heap.size, 4, none⟩ = some (.int .i64 0) ∧ W.cell? ⟨w3.heap.size, 5, none⟩ = some (.int .i64 0)) ∧ (W.cell? ⟨w4.heap.size, 0, none⟩ = some (.int .i64 0) ∧ W.cell? ⟨w4.heap.size, 1, none⟩ = some (.int .i64 0) ∧ W.cell? ⟨w4.heap.size, 2, none⟩ = some (.int .i64 0) ∧ W.cell? ⟨w4.heap.size, 3, none⟩ = some (.int .i64 0) ∧ W.cell? ⟨w4.heap.size, 4, none⟩ = some (.int .i64 0) ∧ W.cell? ⟨w4.heap.size, 5, none⟩ = some (.int .i64 0)) ∧ Below w.heap.size w W) (first | exact keep18_drew hS | exact keep18 (by assumption) hb5 | assumption) ((first | (go_at_call 19; refine (good_any _ _ _ _ _ _ _).mono ?_; rintro e w5 ⟨rfl, hb5⟩) | (go_at_call 20; refine (wordError_any _ _ _ _ _ _ _).mono ?_; rintro e w5 ⟨rfl, hb5⟩) | (go_at_call 21; refine (leader_any _ _ _).mono ?_; rintro e w5 ⟨rfl, rfl⟩) | (go_at_call 22; refine (leaderOf_any _ _ _).mono ?_; rintro e w5 ⟨rfl, rfl⟩) | (go_at_call 23; refine (lwires_any _).mono ?_; rintro e w5 ⟨rfl, hb5⟩)))
  go_wp2
  go_ret
  rename_i hh
  exact ⟨rfl, hh.2.2.2⟩

theorem tells_any (k f h r v x : Int) (s : ByteArray) (H R : Int) (w : World) (hm : s.size ≤ maxLen) :
    Calls Try.prog 3 #[.agg #[.int .i64 k, .int .i64 f, .int .i64 h, .int .i64 r, .int .i64 v, .int .i64 x], .string s, .int .i64 H, .int .i64 R] w fun e w' => e = .returned (.bool true) ∧ Below w.heap.size w w' := by
  by_cases hs : ∃ k' f' h' r' v' x', goodC k' f' h' r' v' x' = 0 ∧ s = encB k' f' h' r' v' x'
  · obtain ⟨k', f', h', r', v', x', hg', rfl⟩ := hs
    by_cases hg : goodC k f h r v x = 0
    · exact tells_gg k f h r v x k' f' h' r' v' x' H R w hg hg'
    · exact tells_bg k f h r v x k' f' h' r' v' x' H R w (by rw [bne_iff_ne]; exact hg) hg'
  · have hn : ∀ k f h r v x, goodC k f h r v x = 0 → s ≠ encB k f h r v x := fun k f h r v x hg he => hs ⟨k, f, h, r, v, x, hg, he⟩
    by_cases hg : goodC k f h r v x = 0
    · exact tells_gn k f h r v x s H R w hg hm hn
    · exact tells_bn k f h r v x s H R w (by rw [bne_iff_ne]; exact hg) hm hn
end Go.Proofs.Ytmmgaonlmpajbaa
