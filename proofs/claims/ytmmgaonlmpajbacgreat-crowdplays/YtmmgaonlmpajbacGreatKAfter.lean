/-
  What Hear, Submit and Time answer, in one word; keep's after.
-/
import Derived.Test.YtmmgaonlmpajbacGreatTurnE
import Derived.Test.YtmmgaonlmpajbacGreatTurnF
namespace Go.Proofs.YtmmgaonlmpajbacGreat
open Go.RowKit

/-- A node, words and an error come back: the node's queue and the words in rows of the call's own. -/
def Res (w : World) (m : NI) (l : List Int) (ws : List Wd) (code : Int) (e : Ending) (w' : World) : Prop :=
  ∃ q' sa sc, e = .returned (.tuple #[.agg (m.setQ q').cells, .slice sa ws.length sc, .int .i64 code]) ∧ w'.ownsRow w.heap.size 3 1 q' l.length (l.map (Value.int .i64)) ∧ w'.ownsRow w.heap.size 36 6 (.slice sa ws.length sc) ws.length (wdsCells ws) ∧ Below w.heap.size w w'
theorem res_refused {w w' : World} {n : NI} {l : List Int} {code : Int} {e : Ending} (h : Refused w n l code e w') : Res w n l [] code e w' := by
  obtain ⟨q', h1, h2, h3⟩ := h
  exact ⟨q', none, 0, h1, h2, World.ownsRow_nil _ _ _ _, h3⟩
theorem res_done {w w' : World} {a : At} {e : Ending} (h : Done w a e w') : Res w (a.n.ni (.slice none 0 0)) a.n.queue a.words 0 e w' := by
  obtain ⟨q', sd', h1, h2, h3, h4⟩ := h
  obtain ⟨sa, sc, rfl⟩ := own_shape h3
  exact ⟨q', sa, sc, h1, h2, h3, h4⟩

/-- What a call answers: refused, or the node behind it. -/
def Says (n : NI) (l : List Int) (o : Option At) (m : NI) (l' : List Int) (ws : List Wd) (code : Int) : Prop :=
  match o with
  | none => m = n ∧ l' = l ∧ ws = [] ∧ code ≠ 0
  | some a => m = a.n.ni (.slice none 0 0) ∧ l' = a.n.queue ∧ ws = a.words ∧ code = 0

theorem nhear_says (n : NI) (l : List Int) (who : Int) (v : Wd) (hl : l.length * 8 ≤ 140737488355328) :
    ∃ o m l' ws code, Says n l o m l' ws code ∧ (∀ W, Ints W n.q l → Calls Tryz.prog 56 #[.agg n.cells, .int .i64 who, .agg #[.int .i64 v.k, .int .i64 v.f, .int .i64 v.h, .int .i64 v.r, .int .i64 v.v, .int .i64 v.x]] W (Res W m l' ws code)) ∧
      (∀ a, o = some a → goodN n l = true ∧ v.good ∧ ∃ whon h : Nat, who = (whon : Int) ∧ whon < 4 ∧ v.h = (h : Int) ∧ a = follow whon ⟨(n.nd l).setSheet h (hearW ((n.nd l).heard h) v), []⟩) := by
  by_cases hg : goodN n l = true
  · by_cases hw : win who 0 3 = true
    · by_cases hc : goodC v.k v.f v.h v.r v.v v.x = 0
      · have hb := goodC_bds hc
        have hw' := win_iff.1 hw
        refine ⟨some (follow who.toNat ⟨(n.nd l).setSheet v.h.toNat (hearW ((n.nd l).heard v.h.toNat) v), []⟩), _, _, _, _, ⟨rfl, rfl, rfl, rfl⟩, fun W hW => ?_, fun a ha => ?_⟩
        · exact (nhear_good n l who v W hW hl hg who.toNat (by omega) (by omega) v.h.toNat (by omega) hc).mono (fun _ _ h => res_done h)
        · exact ⟨hg, hc, who.toNat, v.h.toNat, by omega, by omega, by omega, (Option.some.inj ha).symm⟩
      · exact ⟨none, n, l, [], _, ⟨rfl, rfl, rfl, hc⟩, fun W hW => (nhear_word n l who v W hW hl hg hw _ rfl hc).mono (fun _ _ h => res_refused h), fun a ha => by cases ha⟩
    · exact ⟨none, n, l, [], 2, ⟨rfl, rfl, rfl, by omega⟩, fun W hW => (nhear_begin n l who v W hW hl 2 (by show _ = _; rw [if_pos hg, if_neg hw]) (by omega)).mono (fun _ _ h => res_refused h), fun a ha => by cases ha⟩
  · exact ⟨none, n, l, [], 1, ⟨rfl, rfl, rfl, by omega⟩, fun W hW => (nhear_begin n l who v W hW hl 1 (by show _ = _; rw [if_neg hg]) (by omega)).mono (fun _ _ h => res_refused h), fun a ha => by cases ha⟩

theorem ntime_says (n : NI) (l : List Int) (who : Int) (hl : l.length * 8 ≤ 140737488355328) :
    ∃ o m l' ws code, Says n l o m l' ws code ∧ (∀ W, Ints W n.q l → Calls Tryz.prog 21 #[.agg n.cells, .int .i64 who] W (Res W m l' ws code)) ∧
      (∀ a, o = some a → goodN n l = true ∧ ∃ whon : Nat, who = (whon : Int) ∧ whon < 4 ∧ a = if (n.nd l).height < 4 then follow whon (gaveUp whon ⟨n.nd l, []⟩) else ⟨n.nd l, []⟩) := by
  by_cases hg : goodN n l = true
  · by_cases hw : win who 0 3 = true
    · have hw' := win_iff.1 hw
      by_cases h4 : (n.nd l).height < 4
      · refine ⟨some (follow who.toNat (gaveUp who.toNat ⟨n.nd l, []⟩)), _, _, _, _, ⟨rfl, rfl, rfl, rfl⟩, fun W hW => ?_, fun a ha => ?_⟩
        · exact (ntime_good n l who W hW hl hg who.toNat (by omega) (by omega) h4).mono (fun _ _ h => res_done h)
        · exact ⟨hg, who.toNat, by omega, by omega, by rw [if_pos h4]; exact (Option.some.inj ha).symm⟩
      · have h4' : (n.nd l).height = 4 := by have := (gn_of hg).1.height; omega
        refine ⟨some ⟨n.nd l, []⟩, _, _, _, _, ⟨rfl, rfl, rfl, rfl⟩, fun W hW => ?_, fun a ha => ?_⟩
        · exact (ntime_end n l who W hW hl hg who.toNat (by omega) (by omega) h4').mono (fun _ _ h => res_done h)
        · exact ⟨hg, who.toNat, by omega, by omega, by rw [if_neg h4]; exact (Option.some.inj ha).symm⟩
    · exact ⟨none, n, l, [], 2, ⟨rfl, rfl, rfl, by omega⟩, fun W hW => (ntime_begin n l who W hW hl 2 (by show _ = _; rw [if_pos hg, if_neg hw]) (by omega)).mono (fun _ _ h => res_refused h), fun a ha => by cases ha⟩
  · exact ⟨none, n, l, [], 1, ⟨rfl, rfl, rfl, by omega⟩, fun W hW => (ntime_begin n l who W hW hl 1 (by show _ = _; rw [if_neg hg]) (by omega)).mono (fun _ _ h => res_refused h), fun a ha => by cases ha⟩

theorem nsub_says (n : NI) (l : List Int) (who y : Int) (hl : l.length * 8 ≤ 140737488355328) :
    ∃ o m l' ws code, Says n l o m l' ws code ∧ (∀ W, Ints W n.q l → Calls Tryz.prog 35 #[.agg n.cells, .int .i64 who, .int .i64 y] W (Res W m l' ws code)) ∧
      (∀ a, o = some a → goodN n l = true ∧ (1 ≤ y ∧ y ≤ 9) ∧ l.length < 6 ∧ ∃ whon : Nat, who = (whon : Int) ∧ whon < 4 ∧ a = if (n.nd l).step = 0 ∧ (n.nd l).height < 4 then follow whon (enter whon ⟨(n.nd l).push y, []⟩ (n.nd l).round) else ⟨(n.nd l).push y, []⟩) := by
  by_cases hg : goodN n l = true
  · have hlen : l.length ≤ 6 := (gn_of hg).1.qlen
    by_cases hw : win who 0 3 = true
    · have hw' := win_iff.1 hw
      by_cases hy : win y 1 9 = true
      · have hy' := win_iff.1 hy
        by_cases h6 : l.length = 6
        · exact ⟨none, n, l, [], 5, ⟨rfl, rfl, rfl, by omega⟩, fun W hW => (nsub_full n l who y W hW hl hg who.toNat (by omega) (by omega) hy h6).mono (fun _ _ h => res_refused h), fun a ha => by cases ha⟩
        · have h6' : l.length < 6 := by omega
          by_cases hs : (n.nd l).step = 0
          · by_cases h4 : (n.nd l).height < 4
            · refine ⟨some (follow who.toNat (enter who.toNat ⟨(n.nd l).push y, []⟩ (n.nd l).round)), _, _, _, _, ⟨rfl, rfl, rfl, rfl⟩, fun W hW => ?_, fun a ha => ?_⟩
              · exact (nsub_good n l who y W hW hl hg who.toNat (by omega) (by omega) hy hy h6' hs h4).mono (fun _ _ h => res_done h)
              · exact ⟨hg, hy', h6', who.toNat, by omega, by omega, by rw [if_pos ⟨hs, h4⟩]; exact (Option.some.inj ha).symm⟩
            · have h4' : (n.nd l).height = 4 := by have := (gn_of hg).1.height; omega
              refine ⟨some ⟨(n.nd l).push y, []⟩, _, _, _, _, ⟨rfl, rfl, rfl, rfl⟩, fun W hW => ?_, fun a ha => ?_⟩
              · exact (nsub_end n l who y W hW hl hg who.toNat (by omega) (by omega) hy h6' hs h4').mono (fun _ _ h => res_done h)
              · exact ⟨hg, hy', h6', who.toNat, by omega, by omega, by rw [if_neg (fun h => h4 h.2)]; exact (Option.some.inj ha).symm⟩
          · refine ⟨some ⟨(n.nd l).push y, []⟩, _, _, _, _, ⟨rfl, rfl, rfl, rfl⟩, fun W hW => ?_, fun a ha => ?_⟩
            · exact (nsub_step n l who y W hW hl hg who.toNat (by omega) (by omega) hy h6' hs).mono (fun _ _ h => res_done h)
            · exact ⟨hg, hy', h6', who.toNat, by omega, by omega, by rw [if_neg (fun h => hs h.1)]; exact (Option.some.inj ha).symm⟩
      · exact ⟨none, n, l, [], 2, ⟨rfl, rfl, rfl, by omega⟩, fun W hW => (nsub_value n l who y W hW hl hg who.toNat (by omega) (by omega) (by simpa using hy)).mono (fun _ _ h => res_refused h), fun a ha => by cases ha⟩
    · exact ⟨none, n, l, [], 2, ⟨rfl, rfl, rfl, by omega⟩, fun W hW => (nsub_begin n l who y W hW hl 2 (by show _ = _; rw [if_pos hg, if_neg hw]) (by omega)).mono (fun _ _ h => res_refused h), fun a ha => by cases ha⟩
  · exact ⟨none, n, l, [], 1, ⟨rfl, rfl, rfl, by omega⟩, fun W hW => (nsub_begin n l who y W hW hl 1 (by show _ = _; rw [if_neg hg]) (by omega)).mono (fun _ _ h => res_refused h), fun a ha => by cases ha⟩

end Go.Proofs.YtmmgaonlmpajbacGreat
