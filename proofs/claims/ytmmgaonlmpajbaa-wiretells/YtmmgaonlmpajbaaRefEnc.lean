/-
  What the document's own answer says of a word's text: EncodeWord.
-/
import Derived.Test.YtmmgaonlmpajbaaRef
namespace Go.Proofs.Ytmmgaonlmpajbaa
open Go.RowKit

theorem keep6 {B : Nat} {k f h r v x : Int} {w0 W W' : World} (hS : (W.cell? ⟨B, 0, none⟩ = some (.int .i64 k) ∧ W.cell? ⟨B, 1, none⟩ = some (.int .i64 f) ∧ W.cell? ⟨B, 2, none⟩ = some (.int .i64 h) ∧ W.cell? ⟨B, 3, none⟩ = some (.int .i64 r) ∧ W.cell? ⟨B, 4, none⟩ = some (.int .i64 v) ∧ W.cell? ⟨B, 5, none⟩ = some (.int .i64 x)) ∧ Below w0.heap.size w0 W) (hb : Below W.heap.size W W') :
    (W'.cell? ⟨B, 0, none⟩ = some (.int .i64 k) ∧ W'.cell? ⟨B, 1, none⟩ = some (.int .i64 f) ∧ W'.cell? ⟨B, 2, none⟩ = some (.int .i64 h) ∧ W'.cell? ⟨B, 3, none⟩ = some (.int .i64 r) ∧ W'.cell? ⟨B, 4, none⟩ = some (.int .i64 v) ∧ W'.cell? ⟨B, 5, none⟩ = some (.int .i64 x)) ∧ Below w0.heap.size w0 W' := by
  obtain ⟨⟨c0, c1, c2, c3, c4, c5⟩, hB⟩ := hS
  have hlt : B < W.heap.size := World.block_lt_of_cell? W _ c0
  have e := fun o => hb.cell (p := ⟨B, o, none⟩) hlt
  exact ⟨⟨(e 0).trans c0, (e 1).trans c1, (e 2).trans c2, (e 3).trans c3, (e 4).trans c4, (e 5).trans c5⟩, bel_trans hB hb⟩

theorem keep6_drew {B : Nat} {k f h r v x : Int} {w0 W : World} (hS : (W.cell? ⟨B, 0, none⟩ = some (.int .i64 k) ∧ W.cell? ⟨B, 1, none⟩ = some (.int .i64 f) ∧ W.cell? ⟨B, 2, none⟩ = some (.int .i64 h) ∧ W.cell? ⟨B, 3, none⟩ = some (.int .i64 r) ∧ W.cell? ⟨B, 4, none⟩ = some (.int .i64 v) ∧ W.cell? ⟨B, 5, none⟩ = some (.int .i64 x)) ∧ Below w0.heap.size w0 W) :
    (W.drew.cell? ⟨B, 0, none⟩ = some (.int .i64 k) ∧ W.drew.cell? ⟨B, 1, none⟩ = some (.int .i64 f) ∧ W.drew.cell? ⟨B, 2, none⟩ = some (.int .i64 h) ∧ W.drew.cell? ⟨B, 3, none⟩ = some (.int .i64 r) ∧ W.drew.cell? ⟨B, 4, none⟩ = some (.int .i64 v) ∧ W.drew.cell? ⟨B, 5, none⟩ = some (.int .i64 x)) ∧ Below w0.heap.size w0 W.drew := ⟨hS.1, hS.2.drew⟩

set_option maxHeartbeats 1000000 in
theorem encodeWord_bad (k f h r v x : Int) (w : World) (hg : (goodC k f h r v x != 0) = true) :
    Calls Try.prog 16 #[.agg #[.int .i64 k, .int .i64 f, .int .i64 h, .int .i64 r, .int .i64 v, .int .i64 x]] w fun e w' => e = .returned (.tuple #[.string ⟨#[]⟩, .int .i64 (goodC k f h r v x)]) ∧ Below w.heap.size w w' := by
  go_enter Try.func16, Try.ntmps16
  go_wp2_with (go_at_call 20; refine (wordError_any _ _ _ _ _ _ _).mono ?_; rintro e w1 ⟨rfl, hb⟩)
  go_ret2
  exact ⟨rfl, below_past hb⟩

theorem enc_app (a b c d e g : UInt8) : ((⟨#[a]⟩ ++ ⟨#[b]⟩ ++ ⟨#[c]⟩ ++ ⟨#[d]⟩ ++ ⟨#[e]⟩ ++ ⟨#[g]⟩ : ByteArray)) = ⟨#[a, b, c, d, e, g]⟩ := by
  apply ByteArray.ext
  simp

set_option maxHeartbeats 1000000 in
theorem encodeWord_good (k f h r v x : Int) (w : World) (hg : goodC k f h r v x = 0) :
    Calls Try.prog 16 #[.agg #[.int .i64 k, .int .i64 f, .int .i64 h, .int .i64 r, .int .i64 v, .int .i64 x]] w fun e w' => e = .returned (.tuple #[.string (encB k f h r v x), .int .i64 0]) ∧ Below w.heap.size w w' := by
  obtain ⟨b1, b2, b3, b4, b5, b6, b7, b8, b9, b10, b11, b12⟩ := goodC_bounds hg
  go_enter Try.func16, Try.ntmps16
  go_wp2_with (go_at_call 20; refine (wordError_any _ _ _ _ _ _ _).mono ?_; rintro e w1 ⟨rfl, hb⟩)
  have hS : (w1.cell? ⟨w.heap.size, 0, none⟩ = some (.int .i64 k) ∧ w1.cell? ⟨w.heap.size, 1, none⟩ = some (.int .i64 f) ∧ w1.cell? ⟨w.heap.size, 2, none⟩ = some (.int .i64 h) ∧ w1.cell? ⟨w.heap.size, 3, none⟩ = some (.int .i64 r) ∧ w1.cell? ⟨w.heap.size, 4, none⟩ = some (.int .i64 v) ∧ w1.cell? ⟨w.heap.size, 5, none⟩ = some (.int .i64 x)) ∧ Below w.heap.size w w1 := by
    have e := fun o => hb.cell (p := ⟨w.heap.size, o, none⟩) (by simp)
    exact ⟨⟨(e 0).trans (by simp [go_sem]), (e 1).trans (by simp [go_sem]), (e 2).trans (by simp [go_sem]), (e 3).trans (by simp [go_sem]), (e 4).trans (by simp [go_sem]), (e 5).trans (by simp [go_sem])⟩, below_past hb⟩
  clear hb
  go_region_held (fun W => (W.cell? ⟨w.heap.size, 0, none⟩ = some (.int .i64 k) ∧ W.cell? ⟨w.heap.size, 1, none⟩ = some (.int .i64 f) ∧ W.cell? ⟨w.heap.size, 2, none⟩ = some (.int .i64 h) ∧ W.cell? ⟨w.heap.size, 3, none⟩ = some (.int .i64 r) ∧ W.cell? ⟨w.heap.size, 4, none⟩ = some (.int .i64 v) ∧ W.cell? ⟨w.heap.size, 5, none⟩ = some (.int .i64 x)) ∧ Below w.heap.size w W) (first | exact keep6_drew hS | exact keep6 (by assumption) hb2) ((go_at_call 55; refine (sign_any _ _ (by omega) (by omega)).mono ?_; rintro e w2 ⟨rfl, hb2⟩))
  go_wp2
  go_ret2
  rename_i hh
  exact ⟨by rw [enc_app]; rfl, hh.2⟩
end Go.Proofs.Ytmmgaonlmpajbaa
