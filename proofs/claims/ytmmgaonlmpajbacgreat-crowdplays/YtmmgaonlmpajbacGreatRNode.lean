/-
  What the document's HearWord, SubmitValue and TimeOver answer at a good node of a crowd, in plain words.
-/
import Derived.Test.YtmmgaonlmpajbacGreatDoc7
import Derived.Test.YtmmgaonlmpajbacGreatDoc8
import Derived.Test.YtmmgaonlmpajbacGreatCNode
namespace Go.Proofs.YtmmgaonlmpajbacGreat
open Go.RowKit

/-- A node and its words come back, no error: the queue's row lies from block g on. -/
def ResG (g : Nat) (w : World) (a : At) (e : Ending) (w' : World) : Prop :=
  ∃ q' sa sc, e = .returned (.tuple #[.agg (a.n.ni q').cells, .slice sa a.words.length sc, .int .i64 0]) ∧ w'.ownsRow g 3 1 q' a.n.queue.length (a.n.queue.map (Value.int .i64)) ∧ w'.ownsRow w.heap.size 36 6 (.slice sa a.words.length sc) a.words.length (wdsCells a.words) ∧ Below w.heap.size w w'
theorem resG_done {g : Nat} {w w' : World} {a : At} {e : Ending} (hg : g ≤ w.heap.size) (h : Done w a e w') : ResG g w a e w' := by
  obtain ⟨q', sd', h1, h2, h3, h4⟩ := h
  obtain ⟨sa, sc, rfl⟩ := own_shape h3
  exact ⟨q', sa, sc, h1, own_mono h2 hg, h3, h4⟩

theorem rhear_yes (RA : RAll) {n : Nd} (G : GN n) (hB : Beyond noSh ⟨n, []⟩) {who : Nat} (hw : who < 4) {v : Wd} (gv : v.good) (q : Value) (g : Nat) (W : World) (hg : g ≤ W.heap.size) (hq : Ints W q n.queue) :
    Calls Tryz.prog 28 #[.agg (n.ni q).cells, .int .i64 (who : Int), .agg (wdArr v)] W (ResG g W (hearN who n v)) := by
  have hb := goodC_bds gv
  have h1 := rhear_good RA (n.ni q) n.queue who v W hq (by have := G.qlen; omega) (goodN_of G q) who rfl hw v.h.toNat (by omega) gv
  rw [nd_ni (a := ⟨n, []⟩) hB q] at h1
  exact h1.mono fun _ _ h => resG_done hg h
theorem rhear_no {n : Nd} (G : GN n) {who : Nat} (hw : who < 4) {v : Wd} {c : Int} (hc : goodC v.k v.f v.h v.r v.v v.x = c) (hne : c ≠ 0) (q : Value) (W : World) (hq : Ints W q n.queue) :
    Calls Tryz.prog 28 #[.agg (n.ni q).cells, .int .i64 (who : Int), .agg (wdArr v)] W (RefD W (n.ni q) c) :=
  rhear_word (n.ni q) n.queue who v W hq (by have := G.qlen; omega) (goodN_of G q) (win_iff.2 ⟨by omega, by omega⟩) c hc hne

theorem rtime_all (RA : RAll) (n : NI) (l : List Int) (who : Int) (w : World) (hq : Ints w n.q l) (hl : l.length * 8 ≤ 140737488355328) (hgn : goodN n l = true) (whon : Nat) (hwn : who = (whon : Int)) (hw4 : whon < 4) (h4 : (n.nd l).height < 4) :
    Calls Tryz.prog 27 #[.agg n.cells, .int .i64 who] w (Done w (follow whon (gaveUp whon ⟨n.nd l, []⟩))) := by
  have hst := (gn_of hgn).1.step
  have hc : (n.nd l).step = 0 ∨ (n.nd l).step = 1 ∨ (n.nd l).step = 2 := by omega
  rcases hc with hs | hs | hs
  · exact rtime_0 RA n l who w hq hl hgn whon hwn hw4 h4 hs
  · by_cases h3 : 3 ≤ allV (((n.nd l).heard (n.nd l).height).wi (n.nd l).round)
    · exact rtime_1y RA n l who w hq hl hgn whon hwn hw4 h4 hs h3
    · exact rtime_1n RA n l who w hq hl hgn whon hwn hw4 h4 hs h3
  · by_cases h3 : 3 ≤ allV (((n.nd l).heard (n.nd l).height).pr (n.nd l).round)
    · by_cases h5 : (n.nd l).round < 5
      · exact rtime_2y RA n l who w hq hl hgn whon hwn hw4 h4 hs h3 h5
      · exact rtime_2r RA n l who w hq hl hgn whon hwn hw4 h4 hs h3 h5
    · exact rtime_2n RA n l who w hq hl hgn whon hwn hw4 h4 hs h3
theorem rtime_yes (RA : RAll) {n : Nd} (G : GN n) (hB : Beyond noSh ⟨n, []⟩) {who : Nat} (hw : who < 4) (q : Value) (g : Nat) (W : World) (hg : g ≤ W.heap.size) (ho : W.ownsRow g 3 1 q n.queue.length (n.queue.map (Value.int .i64))) :
    Calls Tryz.prog 27 #[.agg (n.ni q).cells, .int .i64 (who : Int)] W (ResG g W (timeN who n)) := by
  have hq := own_ints ho
  have e := nd_ni (a := ⟨n, []⟩) hB q
  have hl : n.queue.length * 8 ≤ 140737488355328 := by have := G.qlen; omega
  by_cases h4 : n.height < 4
  · have h1 := rtime_all RA (n.ni q) n.queue who W hq hl (goodN_of G q) who rfl hw (by rw [e]; exact h4)
    rw [e] at h1
    have e2 : follow who (gaveUp who ⟨n, []⟩) = timeN who n := by
      unfold timeN gaveUp
      rw [if_neg (show ¬ n.height = 4 by omega)]
      simp only
      by_cases c0 : n.step = 0
      · rw [if_pos c0, if_pos c0]
      · rw [if_neg c0, if_neg c0]
        by_cases c1 : n.step = 1
        · rw [if_pos c1, if_pos c1]
          show follow who (if 3 ≤ allV (n.sheet.wi n.round) then _ else _) = _
          split <;> rfl
        · rw [if_neg c1, if_neg c1]
          show follow who (if 3 ≤ allV (n.sheet.pr n.round) ∧ n.round + 1 < 6 then _ else _) = if 3 ≤ allV (n.sheet.pr n.round) ∧ n.round < 5 then _ else _
          by_cases c2 : 3 ≤ allV (n.sheet.pr n.round) ∧ n.round < 5
          · rw [if_pos c2, if_pos ⟨c2.1, by omega⟩]
          · rw [if_neg c2, if_neg (fun h => c2 ⟨h.1, by omega⟩)]
    rw [e2] at h1
    exact h1.mono fun _ _ h => resG_done hg h
  · have h4' : n.height = 4 := by have := G.height; omega
    have h1 := rtime_end (n.ni q) n.queue who W hq hl (goodN_of G q) who rfl hw (by rw [e]; exact h4')
    have e2 : timeN who n = ⟨n, []⟩ := by unfold timeN; rw [if_pos h4']
    rw [e2]
    exact h1.mono fun _ _ h => ⟨q, none, 0, h.1, own_below ho h.2, World.ownsRow_nil _ _ _ _, h.2⟩
theorem rsubmit_yes (RA : RAll) {n : Nd} (G : GN n) (hB : Beyond noSh ⟨n, []⟩) {who : Nat} (hw : who < 4) {y : Int} (hy : win y 1 9 = true) (h6 : n.queue.length < 6) (q : Value) (g : Nat) (W : World) (hg : g ≤ W.heap.size) (hq : Ints W q n.queue) :
    Calls Tryz.prog 26 #[.agg (n.ni q).cells, .int .i64 (who : Int), .int .i64 y] W (ResG g W (submitN who n y)) := by
  have e := nd_ni (a := ⟨n, []⟩) hB q
  have hl : n.queue.length * 8 ≤ 140737488355328 := by omega
  have e2 : submitN who n y = if n.height < 4 ∧ n.step = 0 then follow who (enter who ⟨n.push y, []⟩ n.round) else ⟨n.push y, []⟩ := rfl
  by_cases h4 : n.height < 4
  · by_cases hs : n.step = 0
    · have h1 := rsub_good RA (n.ni q) n.queue who y W hq hl (goodN_of G q) who rfl hw hy hy h6 (by rw [e]; exact hs) (by rw [e]; exact h4)
      rw [e] at h1
      rw [e2, if_pos ⟨h4, hs⟩]
      exact h1.mono fun _ _ h => resG_done hg h
    · have h1 := rsub_step (n.ni q) n.queue who y W hq hl (goodN_of G q) who rfl hw hy h6 (by rw [e]; exact hs) (by rw [e]; exact h4)
      rw [e] at h1
      rw [e2, if_neg (fun h => hs h.2)]
      exact h1.mono fun _ _ h => resG_done hg h
  · have h1 := rsub_end (n.ni q) n.queue who y W hq hl (goodN_of G q) who rfl hw hy h6 (by rw [e]; have := G.height; show n.height = 4; omega)
    rw [e] at h1
    rw [e2, if_neg (fun h => h4 h.1)]
    exact h1.mono fun _ _ h => resG_done hg h
theorem rsubmit_no {n : Nd} (G : GN n) {who : Nat} (hw : who < 4) {y : Int} (hne : subCode n y ≠ 0) (q : Value) (W : World) (hq : Ints W q n.queue) :
    Calls Tryz.prog 26 #[.agg (n.ni q).cells, .int .i64 (who : Int), .int .i64 y] W (RefD W (n.ni q) (subCode n y)) := by
  have hl : n.queue.length * 8 ≤ 140737488355328 := by have := G.qlen; omega
  unfold subCode at hne ⊢
  by_cases hy : win y 1 9 = true
  · rw [if_pos hy] at hne ⊢
    by_cases h6 : n.queue.length = 6
    · rw [if_pos h6]
      exact rsub_full (n.ni q) n.queue who y W hq hl (goodN_of G q) who rfl hw hy h6
    · rw [if_neg h6] at hne; exact absurd rfl hne
  · rw [if_neg hy]
    exact rsub_value (n.ni q) n.queue who y W hq hl (goodN_of G q) who rfl hw (by simpa using hy)
end Go.Proofs.YtmmgaonlmpajbacGreat
