/-
  What the landed node and the document's answer, in one word; law's nodes.
-/
import Derived.Test.YtmmgaonlmpajbaaDoc4
import Derived.Test.YtmmgaonlmpajbaaDoc8
import Derived.Test.YtmmgaonlmpajbaaKAfter
import Derived.Test.YtmmgaonlmpajbaaOwnW
import Derived.Test.YtmmgaonlmpajbaaLid
namespace Go.Proofs.Ytmmgaonlmpajbaa
open Go.RowKit

set_option maxRecDepth 100000 in
set_option maxHeartbeats 4000000 in
theorem lnodes_any (w : World) : Calls Try.prog 47 #[] w fun e w' => e = .returned (.bool true) ∧ Below w.heap.size w w' := by
  have hsub : ∀ W, Calls Try.prog 48 #[.agg newN.cells, .int .i64 0, .int .i64 7] W (Done W firstA) := fun W =>
    nsub_good newN [] 0 7 W (Or.inl ⟨rfl, 0, rfl⟩) (by simp) newN_good 0 rfl (by omega) rfl rfl (by simp) rfl (by show 0 < 4; omega)
  have hz := run_zeroN
  go_enter Try.func47, Try.ntmps47
  go_wp2_with (first
    | (go_at_call 81; refine (nnew_any _).mono ?_; rintro e w1 ⟨rfl, L1⟩)
    | (go_at_call 48; refine (hsub _).mono ?_; rintro e w2 ⟨q', sd', rfl, hown, hsaid, L2⟩; clear hsub; rw [firstA_words] at hsaid; obtain ⟨gs, cap, hsd, k0, k6, k10⟩ : ∃ gs cap, sd' = .slice (some ⟨gs, 0, none⟩) 2 cap ∧ w2.cell? ⟨gs, 0, none⟩ = some (.int .i64 1) ∧ w2.cell? ⟨gs, 6, none⟩ = some (.int .i64 2) ∧ w2.cell? ⟨gs, 10, none⟩ = some (.int .i64 7) := (by
        rcases hsaid.2 with ⟨_, h0⟩ | ⟨gs, cap, cur, hv, _, hh, _, _, _, ht⟩
        · cases h0
        · have hB : Blk w2 gs cur 23 := hh
          have hc : ∀ j u, (wdsCells [⟨1, 0, 0, 0, 7, -1⟩, ⟨2, 0, 0, 0, 7, 0⟩])[j]? = some u → j < 12 → w2.cell? ⟨gs, j, none⟩ = some u := fun j u hu hj => by
            rw [← ht, List.getElem?_take, if_pos (by simpa using hj), Array.getElem?_toList] at hu
            rw [hB.cell]; exact hu
          exact ⟨gs, cap, hv, hc 0 _ rfl (by omega), hc 6 _ rfl (by omega), hc 10 _ rfl (by omega)⟩); subst hsd; have hi5 := infoN (firstA.n.ni q'); have Z2 : Blk (w2.alloc (.cells zN.cells 61)) w2.heap.size zN.cells 61 := Blk.new w2 _ _; have La : Below w2.heap.size w2 (w2.alloc (.cells zN.cells 61)) := (by go_grown))
    | (refine wpList_store_blk rfl 61 _ _ rfl w2.heap.size zN.cells (firstA.n.ni q').cells 61 rfl rfl Z2 (by rw [ncells_size, ncells_size]) hi5 (one_cellN _ (own_one hown)) ?_; rintro w3 B3 K3; have L3 := K3.bel _ _ (Nat.le_refl _) La; replace k0 := cell_on k0 L3; replace k6 := cell_on k6 L3; replace k10 := cell_on k10 L3; have e2 := B3.cell 2; rw [ncells_num _ 2 (by omega)] at e2; replace e2 : w3.cell? ⟨w2.heap.size, 2, none⟩ = some (.int .i64 1) := e2.trans (by show some (Value.int .i64 (firstA.n.step : Int)) = _; rw [firstA_step]; rfl)))
  go_ret
  exact ⟨rfl, bel_trans (bel_trans L1 L2) L3⟩

theorem rall_is : RAll := fun _ _ _ _ _ _ _ H F => rall_any H F
/-- A node, words and an error come back from the document's: its queue can be read, the words lie in a row of their own. -/
def ResD (w : World) (m : NI) (l : List Int) (ws : List Wd) (code : Int) (e : Ending) (w' : World) : Prop :=
  ∃ q' sa sc, e = .returned (.tuple #[.agg (m.setQ q').cells, .slice sa ws.length sc, .int .i64 code]) ∧ Ints w' q' l ∧ w'.ownsRow w.heap.size 23 6 (.slice sa ws.length sc) ws.length (wdsCells ws) ∧ Below w.heap.size w w'
theorem resD_ref {w w' : World} {n : NI} {l : List Int} {code : Int} {e : Ending} (hq : Ints w n.q l) (h : RefD w n code e w') : ResD w n l [] code e w' := ⟨n.q, none, 0, h.1, hq.keep h.2, World.ownsRow_nil _ _ _ _, h.2⟩
theorem resD_done {w w' : World} {a : At} {e : Ending} (h : Done w a e w') : ResD w (a.n.ni (.slice none 0 0)) a.n.queue a.words 0 e w' := by
  obtain ⟨q', sd', h1, h2, h3, h4⟩ := h
  obtain ⟨sa, sc, rfl⟩ := own_shape h3
  exact ⟨q', sa, sc, h1, own_ints h2, h3, h4⟩
/-- What both answer. -/
structure Both (l' : List Int) (ws : List Wd) : Prop where
  queue : l'.length < 4611686018427387904
  words : ws.length < 4611686018427387904
theorem both_FI {a : At} (F : FI a) : Both a.n.queue a.words := ⟨by have := F.good.qlen; omega, by have := F.len; omega⟩
theorem both_ref {l : List Int} (hl : l.length * 8 ≤ 140737488355328) : Both l [] := ⟨by omega, by simp⟩

theorem hear_both (n : NI) (l : List Int) (who : Int) (v : Wd) (hl : l.length * 8 ≤ 140737488355328) : ∃ m l' ws code, Both l' ws ∧
    (∀ q W, Ints W q l → Calls Try.prog 41 #[.agg (n.setQ q).cells, .int .i64 who, .agg #[.int .i64 v.k, .int .i64 v.f, .int .i64 v.h, .int .i64 v.r, .int .i64 v.v, .int .i64 v.x]] W (Res W m l' ws code)) ∧
    (∀ W, Ints W n.q l → Calls Try.prog 42 #[.agg n.cells, .int .i64 who, .agg #[.int .i64 v.k, .int .i64 v.f, .int .i64 v.h, .int .i64 v.r, .int .i64 v.v, .int .i64 v.x]] W (ResD W m l' ws code)) := by
  by_cases hg : goodN n l = true
  · by_cases hw : win who 0 3 = true
    · by_cases hc : goodC v.k v.f v.h v.r v.v v.x = 0
      · have hb := goodC_bds hc
        have hw' := win_iff.1 hw
        exact ⟨_, _, _, 0, both_FI (follow_ends (who := who.toNat) _ _ (FI.start ((gn_of hg).1.hear v.h.toNat v)) (Nat.le_refl _)).2,
          fun q W hW => (nhear_good (n.setQ q) l who v W hW hl hg who.toNat (by omega) (by omega) v.h.toNat (by omega) hc).mono (fun _ _ h => res_done h),
          fun W hW => (rhear_good rall_is n l who v W hW hl hg who.toNat (by omega) (by omega) v.h.toNat (by omega) hc).mono (fun _ _ h => resD_done h)⟩
      · exact ⟨n, l, [], _, both_ref hl, fun q W hW => (nhear_word (n.setQ q) l who v W hW hl hg hw _ rfl hc).mono (fun _ _ h => res_refused h), fun W hW => (rhear_word n l who v W hW hl hg hw _ rfl hc).mono (fun _ _ h => resD_ref hW h)⟩
    · exact ⟨n, l, [], 2, both_ref hl, fun q W hW => (nhear_begin (n.setQ q) l who v W hW hl 2 (by show (2 : Int) = if goodN n l then _ else _; rw [if_pos hg, if_neg hw]) (by omega)).mono (fun _ _ h => res_refused h), fun W hW => (rhear_begin n l who v W hW hl 2 (by show _ = _; rw [if_pos hg, if_neg hw]) (by omega)).mono (fun _ _ h => resD_ref hW h)⟩
  · exact ⟨n, l, [], 1, both_ref hl, fun q W hW => (nhear_begin (n.setQ q) l who v W hW hl 1 (by show (1 : Int) = if goodN n l then _ else _; rw [if_neg hg]) (by omega)).mono (fun _ _ h => res_refused h), fun W hW => (rhear_begin n l who v W hW hl 1 (by show _ = _; rw [if_neg hg]) (by omega)).mono (fun _ _ h => resD_ref hW h)⟩

theorem rtime_good (n : NI) (l : List Int) (who : Int) (w : World) (hq : Ints w n.q l) (hl : l.length * 8 ≤ 140737488355328) (hgn : goodN n l = true) (whon : Nat) (hwn : who = (whon : Int)) (hw4 : whon < 4) (h4 : (n.nd l).height < 4) :
    Calls Try.prog 51 #[.agg n.cells, .int .i64 who] w (Done w (follow whon (gaveUp whon ⟨n.nd l, []⟩))) := by
  have hst := (gn_of hgn).1.step
  have hc : (n.nd l).step = 0 ∨ (n.nd l).step = 1 ∨ (n.nd l).step = 2 := by omega
  rcases hc with hs | hs | hs
  · exact rtime_0 rall_is n l who w hq hl hgn whon hwn hw4 h4 hs
  · by_cases h3 : 3 ≤ allV (((n.nd l).heard (n.nd l).height).wi (n.nd l).round)
    · exact rtime_1y rall_is n l who w hq hl hgn whon hwn hw4 h4 hs h3
    · exact rtime_1n rall_is n l who w hq hl hgn whon hwn hw4 h4 hs h3
  · by_cases h3 : 3 ≤ allV (((n.nd l).heard (n.nd l).height).pr (n.nd l).round)
    · by_cases h5 : (n.nd l).round < 5
      · exact rtime_2y rall_is n l who w hq hl hgn whon hwn hw4 h4 hs h3 h5
      · exact rtime_2r rall_is n l who w hq hl hgn whon hwn hw4 h4 hs h3 h5
    · exact rtime_2n rall_is n l who w hq hl hgn whon hwn hw4 h4 hs h3
theorem done_setQ {w w' : World} {n : NI} {l : List Int} {e : Ending} (hg : goodN n l = true) (h : Done w ⟨n.nd l, []⟩ e w') : Res w n l [] 0 e w' := by
  obtain ⟨q', sd', h1, h2, h3, h4⟩ := h
  obtain ⟨sa, sc, rfl⟩ := own_shape h3
  obtain ⟨_, e1, e2, e3⟩ := gn_of hg
  refine ⟨q', sa, sc, ?_, h2, h3, h4⟩
  rw [← cells_nd e1 e2 e3 q']
  exact h1

theorem time_both (n : NI) (l : List Int) (who : Int) (hl : l.length * 8 ≤ 140737488355328) : ∃ m l' ws code, Both l' ws ∧
    (∀ q W, Ints W q l → Calls Try.prog 50 #[.agg (n.setQ q).cells, .int .i64 who] W (Res W m l' ws code)) ∧
    (∀ W, Ints W n.q l → Calls Try.prog 51 #[.agg n.cells, .int .i64 who] W (ResD W m l' ws code)) := by
  by_cases hg : goodN n l = true
  · by_cases hw : win who 0 3 = true
    · have hw' := win_iff.1 hw
      by_cases h4 : (n.nd l).height < 4
      · exact ⟨_, _, _, 0, both_FI (follow_ends (who := who.toNat) _ _ (FI.gave (gn_of hg).1 h4) (Nat.le_refl _)).2,
          fun q W hW => (ntime_good (n.setQ q) l who W hW hl hg who.toNat (by omega) (by omega) h4).mono (fun _ _ h => res_done h),
          fun W hW => (rtime_good n l who W hW hl hg who.toNat (by omega) (by omega) h4).mono (fun _ _ h => resD_done h)⟩
      · have h4' : (n.nd l).height = 4 := by have := (gn_of hg).1.height; omega
        exact ⟨n, l, [], 0, both_ref hl, fun q W hW => (ntime_end (n.setQ q) l who W hW hl hg who.toNat (by omega) (by omega) h4').mono (fun _ _ h => done_setQ (n := n.setQ q) hg h), fun W hW => (rtime_end n l who W hW hl hg who.toNat (by omega) (by omega) h4').mono (fun _ _ h => resD_ref hW h)⟩
    · exact ⟨n, l, [], 2, both_ref hl, fun q W hW => (ntime_begin (n.setQ q) l who W hW hl 2 (by show (2 : Int) = if goodN n l then _ else _; rw [if_pos hg, if_neg hw]) (by omega)).mono (fun _ _ h => res_refused h), fun W hW => (rtime_begin n l who W hW hl 2 (by show _ = _; rw [if_pos hg, if_neg hw]) (by omega)).mono (fun _ _ h => resD_ref hW h)⟩
  · exact ⟨n, l, [], 1, both_ref hl, fun q W hW => (ntime_begin (n.setQ q) l who W hW hl 1 (by show (1 : Int) = if goodN n l then _ else _; rw [if_neg hg]) (by omega)).mono (fun _ _ h => res_refused h), fun W hW => (rtime_begin n l who W hW hl 1 (by show _ = _; rw [if_neg hg]) (by omega)).mono (fun _ _ h => resD_ref hW h)⟩

theorem sub_both (n : NI) (l : List Int) (who y : Int) (hl : l.length * 8 ≤ 140737488355328) : ∃ m l' ws code, Both l' ws ∧
    (∀ q W, Ints W q l → Calls Try.prog 48 #[.agg (n.setQ q).cells, .int .i64 who, .int .i64 y] W (Res W m l' ws code)) ∧
    (∀ W, Ints W n.q l → Calls Try.prog 49 #[.agg n.cells, .int .i64 who, .int .i64 y] W (ResD W m l' ws code)) := by
  by_cases hg : goodN n l = true
  · have hlen : l.length ≤ 6 := (gn_of hg).1.qlen
    have hpush : Both ((⟨(n.nd l).push y, []⟩ : At).n.queue) [] := ⟨by show (l ++ [y]).length < _; simp; omega, by simp⟩
    by_cases hw : win who 0 3 = true
    · have hw' := win_iff.1 hw
      by_cases hy : win y 1 9 = true
      · by_cases h6 : l.length = 6
        · exact ⟨n, l, [], 5, both_ref hl, fun q W hW => (nsub_full (n.setQ q) l who y W hW hl hg who.toNat (by omega) (by omega) hy h6).mono (fun _ _ h => res_refused h), fun W hW => (rsub_full n l who y W hW hl hg who.toNat (by omega) (by omega) hy h6).mono (fun _ _ h => resD_ref hW h)⟩
        · have h6' : l.length < 6 := by omega
          by_cases h4 : (n.nd l).height < 4
          · by_cases hs : (n.nd l).step = 0
            · exact ⟨_, _, _, 0, both_FI (follow_ends (who := who.toNat) _ _ (FI.enter0 ((gn_of hg).1.push (win_iff.1 hy) h6')) (Nat.le_refl _)).2,
                fun q W hW => (nsub_good (n.setQ q) l who y W hW hl hg who.toNat (by omega) (by omega) hy hy h6' hs h4).mono (fun _ _ h => res_done h),
                fun W hW => (rsub_good rall_is n l who y W hW hl hg who.toNat (by omega) (by omega) hy hy h6' hs h4).mono (fun _ _ h => resD_done h)⟩
            · exact ⟨_, _, _, 0, hpush, fun q W hW => (nsub_step (n.setQ q) l who y W hW hl hg who.toNat (by omega) (by omega) hy h6' hs).mono (fun _ _ h => res_done h), fun W hW => (rsub_step n l who y W hW hl hg who.toNat (by omega) (by omega) hy h6' hs h4).mono (fun _ _ h => resD_done h)⟩
          · have h4' : (n.nd l).height = 4 := by have := (gn_of hg).1.height; omega
            refine ⟨_, _, _, 0, hpush, fun q W hW => ?_, fun W hW => (rsub_end n l who y W hW hl hg who.toNat (by omega) (by omega) hy h6' h4').mono (fun _ _ h => resD_done h)⟩
            by_cases hs : (n.nd l).step = 0
            · exact (nsub_end (n.setQ q) l who y W hW hl hg who.toNat (by omega) (by omega) hy h6' hs h4').mono (fun _ _ h => res_done h)
            · exact (nsub_step (n.setQ q) l who y W hW hl hg who.toNat (by omega) (by omega) hy h6' hs).mono (fun _ _ h => res_done h)
      · have hy' : win y 1 9 = false := by simpa using hy
        exact ⟨n, l, [], 2, both_ref hl, fun q W hW => (nsub_value (n.setQ q) l who y W hW hl hg who.toNat (by omega) (by omega) hy').mono (fun _ _ h => res_refused h), fun W hW => (rsub_value n l who y W hW hl hg who.toNat (by omega) (by omega) hy').mono (fun _ _ h => resD_ref hW h)⟩
    · exact ⟨n, l, [], 2, both_ref hl, fun q W hW => (nsub_begin (n.setQ q) l who y W hW hl 2 (by show (2 : Int) = if goodN n l then _ else _; rw [if_pos hg, if_neg hw]) (by omega)).mono (fun _ _ h => res_refused h), fun W hW => (rsub_begin n l who y W hW hl 2 (by show _ = _; rw [if_pos hg, if_neg hw]) (by omega)).mono (fun _ _ h => resD_ref hW h)⟩
  · exact ⟨n, l, [], 1, both_ref hl, fun q W hW => (nsub_begin (n.setQ q) l who y W hW hl 1 (by show (1 : Int) = if goodN n l then _ else _; rw [if_neg hg]) (by omega)).mono (fun _ _ h => res_refused h), fun W hW => (rsub_begin n l who y W hW hl 1 (by show _ = _; rw [if_neg hg]) (by omega)).mono (fun _ _ h => resD_ref hW h)⟩

/-- A region in the text's order, the same in all worlds of a class, behind a lid. -/
structure WC (P : Program) (ops : Array Oper) (C : World → Prop) (Q : Exit → Act → World → Prop) (l : List Oper) (a : Act) : Prop where
  out : ∀ w, C w → WL P ops Q l a w
section
variable {P : Program} {ops : Array Oper} {C : World → Prop} {Q : Exit → Act → World → Prop} {a : Act} {o : Oper} {rest : List Oper}
theorem c_skip (hw : Region.wanted o (yielded ops a.tmps) = false) (h : WC P ops C Q rest (a.put o.dst undef)) : WC P ops C Q (o :: rest) a := ⟨fun w hC => l_skip hw (h.out w hC)⟩
theorem c_run_ex (hw : Region.wanted o (yielded ops a.tmps) = true) (h : ∃ v, (∀ w, C w → (execOp a.eval o).run P w = .ok (.value v) w) ∧ WC P ops C Q rest (a.put o.dst v)) : WC P ops C Q (o :: rest) a :=
  let ⟨_, hv, hk⟩ := h
  ⟨fun w hC => l_run_ex hw ⟨_, hv w hC, hk.out w hC⟩⟩
theorem c_call_ex (hw : Region.wanted o (yielded ops a.tmps) = true) (h : ∃ f args v, (∀ w, C w → (execOp a.eval o).run P w = .ok (.enter f args) w) ∧ (∀ w, C w → Calls P f args w (fun e w' => e = .returned v ∧ C w')) ∧ WC P ops C Q rest (a.put o.dst v)) : WC P ops C Q (o :: rest) a :=
  let ⟨_, _, v, hv, hc, hk⟩ := h
  ⟨fun w hC => l_call_ex hw ⟨_, _, hv w hC, (hc w hC).mono fun _ w' h => ⟨v, h.1, hk.out w' h.2⟩⟩⟩
theorem c_load (hw : Region.wanted o (yielded ops a.tmps) = true) (ty : TypeId) (x : Operand) (ho : o.op = .load ty x) (g off : Nat) (hx : a.eval x = .pointer (some ⟨g, off, none⟩)) (D : Array Value) (d : TypeDesc) (hB : ∀ w, C w → w.rangeAt g off D.toList)
    (hu : P.underlying ty = some d) (hd : d.isRow = true) (hi : (P.info? ty).map (·.size) = some D.size)
    (h : WC P ops C Q rest (a.put o.dst (.agg D))) : WC P ops C Q (o :: rest) a :=
  ⟨fun w hC => l_load hw ty x ho g off hx D d (hB w hC) hu hd hi (h.out w hC)⟩
theorem c_nil (h : ∀ w, C w → Q .normal a w) : WC P ops C Q [] a := ⟨fun w hC => l_nil (h w hC)⟩
end
end Go.Proofs.Ytmmgaonlmpajbaa
