/-
  The statement NodeSettles.
-/
import Derived.Test.YtmmgaonlmpajbabKAfter
import Derived.Test.YtmmgaonlmpajbabPlain4
import Derived.Test.YtmmgaonlmpajbabVMost
import Derived.Test.YtmmgaonlmpajbabBoundLaw
namespace Go.Proofs.Ytmmgaonlmpajbab
open Go.RowKit

/-- Is there a round among the first r in which a quorum has promised what was proposed, and that is s? -/
def foundS (S : Sh) (s : Int) : Nat → Bool
  | 0 => false
  | r + 1 => foundS S s r || ((mostV (S.pr r)).2 && ((mostV (S.pr r)).1 == s) && S.is r && (S.val r == (mostV (S.pr r)).1))
theorem foundS_of {S : Sh} {s : Int} (h1 : 1 ≤ s ∧ s ≤ 9) (hr : ∃ r, r < 6 ∧ settles S r = true ∧ s = S.val r) : foundS S s 6 = true := by
  obtain ⟨r, h6, hs, hv⟩ := hr
  have hs' : S.is r = true ∧ 3 ≤ cntV (S.pr r) (S.val r) := by
    unfold settles at hs
    rw [Bool.and_eq_true, decide_eq_true_eq] at hs
    exact hs
  have hm := most_found (V := S.pr r) (x := S.val r) (by omega) (by omega) hs'.2
  have key : ∀ m : Nat, r < m → foundS S s m = true := by
    intro m
    induction m with
    | zero => intro hm; omega
    | succ m ih =>
      intro hm'
      show (foundS S s m || ((mostV (S.pr m)).2 && ((mostV (S.pr m)).1 == s) && S.is m && (S.val m == (mostV (S.pr m)).1))) = true
      by_cases e : r = m
      · subst e; rw [hm, hs'.1, hv]; simp
      · rw [ih (by omega)]; rfl
  exact key 6 h6
def callA (S : Sh) (r : Nat) : Array Value := #[.bool (S.is r), .int .i64 (S.val r), .int .i64 (S.vld r)]
theorem call_range' {W : World} {b : Nat} {n : NI} {t : TypeId} (B : Blk W b n.cells t) (h r : Nat) (hh : h < 4) (hr : r < 6) : W.rangeAt b (13 + h * 66 + r * 3) (callA (n.heard h) r).toList := by
  intro j u hu
  have hj : j < 3 := by
    by_cases hlt : j < 3
    · exact hlt
    · rw [List.getElem?_eq_none (by show (callA (n.heard h) r).toList.length ≤ j; simp [callA]; omega)] at hu; cases hu
  rw [B.cell, show 13 + h * 66 + r * 3 + j = 13 + h * 66 + (r * 3 + j) by omega, ncells_heard _ _ _ hh (by omega)]
  have : j = 0 ∨ j = 1 ∨ j = 2 := by omega
  rcases this with rfl | rfl | rfl
  · rw [Nat.add_zero, cellAt_is _ r hr]; exact hu
  · rw [cellAt_val _ r hr]; exact hu
  · rw [cellAt_vld _ r hr]; exact hu
abbrev wA (v : Wd) : Array Value := #[.int .i64 v.k, .int .i64 v.f, .int .i64 v.h, .int .i64 v.r, .int .i64 v.v, .int .i64 v.x]
abbrev zC : Array Value := #[.bool false, .int .i64 0, .int .i64 0]

set_option maxRecDepth 100000 in
set_option maxHeartbeats 4000000 in
theorem settles_code (n : NI) (l : List Int) (who : Int) (v : Wd) (m : NI) (l' : List Int) (ws : List Wd) (code : Int)
    (hcon : ∀ W, Ints W n.q l → Calls Try.prog 15 #[.agg n.cells, .int .i64 who, .agg (wA v)] W (Res W m l' ws code)) (w : World) (hq : Ints w n.q l) (hne : code ≠ 0) :
    Calls Try.prog 3 #[.agg n.cells, .int .i64 who, .agg (wA v)] w fun e w' => e = .returned (.bool true) ∧ Below w.heap.size w w' := by
  have hz := run_zeroN
  have hiN := infoN n
  have hi6 : (Try.prog.info? 36).map (·.size) = some (wA v).size := by show _ = some 6; kernel_rfl
  have B0 : Blk ((w.alloc (.cells n.cells 34)).alloc (.cells (wA v) 36)) w.heap.size n.cells 34 := (Blk.new w _ _).alloc _
  have Bw : Blk ((w.alloc (.cells n.cells 34)).alloc (.cells (wA v) 36)) (w.heap.size + 1) (wA v) 36 := Blk.new1 w _ _ _
  have L0 : Below w.heap.size w ((w.alloc (.cells n.cells 34)).alloc (.cells (wA v) 36)) := by go_grown
  have hc2 : (code != 0) = true := by simpa using hne
  clear hne
  go_enter Try.func3, Try.ntmps3
  go_upto_region 1 with fail
  generalize ((w.alloc (.cells n.cells 34)).alloc (.cells (wA v) 36)) = w0 at B0 Bw L0 ⊢
  have hc := hcon w0 (hq.keep L0)
  clear hcon hq
  go_wp2_with (first
    | (refine wpList_load_blk rfl 34 _ rfl w.heap.size rfl 34 n.cells _ B0 Try.underlying34 rfl hiN ?_)
    | (refine wpList_load_part (by rfl) 36 _ rfl (w.heap.size + 1) 0 rfl (wA v) _ Bw.range Try.underlying36 rfl hi6 ?_)
    | (go_at_call 15; refine hc.mono ?_; clear hc; rintro e w2 ⟨q', sa, sc, rfl, hown, hsaid, L2⟩; have hi5 := infoN (m.setQ q'); have Z2 : Blk (w2.alloc (.cells zN.cells 34)) w2.heap.size zN.cells 34 := Blk.new w2 _ _; have La : Below w2.heap.size w2 (w2.alloc (.cells zN.cells 34)) := (by go_grown))
    | (refine wpList_store_blk rfl 34 _ _ rfl w2.heap.size zN.cells (m.setQ q').cells 34 rfl rfl Z2 (by rw [ncells_size, ncells_size]) hi5 (one_cellN _ (own_one hown)) ?_; rintro w3 B3 K3; have L3 := K3.bel _ _ (Nat.le_refl _) La; clear Z2 La)
    | (go_at_call 16; refine (knodes_any _).mono ?_; rintro e w9 ⟨rfl, L9⟩))
  go_ret
  exact ⟨rfl, bel_trans (bel_trans (bel_trans L0 L2) L3) L9⟩

set_option maxRecDepth 100000 in
set_option maxHeartbeats 8000000 in
theorem settles_ok (n : NI) (l : List Int) (who : Int) (v : Wd) (m : NI) (l' : List Int) (ws : List Wd) (h0 Hn : Nat) (hn0 : n.height = (h0 : Int)) (hmh : m.height = (Hn : Int)) (hle0 : h0 ≤ 4) (hle : Hn ≤ 4)
    (hcon : ∀ W, Ints W n.q l → Calls Try.prog 15 #[.agg n.cells, .int .i64 who, .agg (wA v)] W (Res W m l' ws 0)) (w : World) (hq : Ints w n.q l)
    (hV : ∀ h r, r < 6 → VBd ((m.heard h).pr r)) (hF : ∀ h, h0 ≤ h → h < Hn → foundS (m.heard h) (m.settled h) 6 = true) :
    Calls Try.prog 3 #[.agg n.cells, .int .i64 who, .agg (wA v)] w fun e w' => e = .returned (.bool true) ∧ Below w.heap.size w w' := by
  have hz := run_zeroN
  have hiN := infoN n
  have hi6 : (Try.prog.info? 36).map (·.size) = some (wA v).size := by show _ = some 6; kernel_rfl
  have hi4 : ∀ f : Nat → Int, (Try.prog.info? 27).map (·.size) = some (four f).size := fun f => by show _ = some 4; kernel_rfl
  have hi3 : ∀ (S : Sh) (r : Nat), (Try.prog.info? 24).map (·.size) = some (callA S r).size := fun S r => by show _ = some 3; kernel_rfl
  have ho3 : ∀ (S : Sh) (r : Nat), (callA S r).all (·.oneCell') = true := fun S r => by show _ = _; kernel_rfl
  have B0 : Blk ((w.alloc (.cells n.cells 34)).alloc (.cells (wA v) 36)) w.heap.size n.cells 34 := (Blk.new w _ _).alloc _
  have Bw : Blk ((w.alloc (.cells n.cells 34)).alloc (.cells (wA v) 36)) (w.heap.size + 1) (wA v) 36 := Blk.new1 w _ _ _
  have L0 : Below w.heap.size w ((w.alloc (.cells n.cells 34)).alloc (.cells (wA v) 36)) := by go_grown
  have HV : Hid _ := hV
  have HF : Hid _ := hF
  have HN0 : Hid (n.height = (h0 : Int)) := hn0
  have HMH : Hid (m.height = (Hn : Int)) := hmh
  clear hV hF hn0 hmh
  go_enter Try.func3, Try.ntmps3
  go_upto_region 1 with fail
  generalize ((w.alloc (.cells n.cells 34)).alloc (.cells (wA v) 36)) = w0 at B0 Bw L0 ⊢
  have hc := hcon w0 (hq.keep L0)
  clear hcon hq
  go_upto_region 4 with (first
    | (refine wpList_load_blk rfl 34 _ rfl w.heap.size rfl 34 n.cells _ B0 Try.underlying34 rfl hiN ?_)
    | (refine wpList_load_part (by rfl) 36 _ rfl (w.heap.size + 1) 0 rfl (wA v) _ Bw.range Try.underlying36 rfl hi6 ?_)
    | (go_at_call 15; refine hc.mono ?_; clear hc; rintro e w2 ⟨q', sa, sc, rfl, hown, hsaid, L2⟩; have hi5 := infoN (m.setQ q'); have Z2 : Blk (w2.alloc (.cells zN.cells 34)) w2.heap.size zN.cells 34 := Blk.new w2 _ _; have La : Below w2.heap.size w2 (w2.alloc (.cells zN.cells 34)) := (by go_grown))
    | (refine wpList_store_blk rfl 34 _ _ rfl w2.heap.size zN.cells (m.setQ q').cells 34 rfl rfl Z2 (by rw [ncells_size, ncells_size]) hi5 (one_cellN _ (own_one hown)) ?_; rintro w3 B3 K3; have L3 := K3.bel _ _ (Nat.le_refl _) La; clear Z2 La)
    | (go_at_call 16; refine (knodes_any _).mono ?_; rintro e w9 ⟨rfl, L9⟩))
  have HM : Hid ((m.setQ q').num 0 = (Hn : Int) ∧ (∀ h, (m.setQ q').settled h = m.settled h) ∧ ∀ h, (m.setQ q').heard h = m.heard h) := ⟨HMH.out, fun _ => rfl, fun _ => rfl⟩
  have B9 := B3.below L9
  have A9 := ((B0.below L2).below L3).below L9
  have LL := bel_trans (bel_trans (bel_trans L0 L2) L3) L9
  clear B0 Bw L0 L2 L3 L9 K3 B3 hown hsaid
  generalize m.setQ q' = M at *
  generalize w2.heap.size = p at B9 ⊢
  have e0 := A9.cell 0
  rw [show n.cells[0]? = some (.int .i64 (h0 : Int)) from (ncells_num n 0 (by omega)).trans (congrArg some (congrArg (Value.int .i64) HN0.out))] at e0
  clear A9
  go_wp2
  clear e0
  go_loopw [10] (fun j W => ∃ h : Nat, h0 ≤ h ∧ h ≤ 4 ∧ j = .int .i64 (h : Int) ∧ Blk W p M.cells 34 ∧ Below w.heap.size w W) (fun j _ => 4 - (intOf j).toNat)
  case atStart => exact ⟨h0, by omega, by omega, rfl, B9, LL⟩
  case round =>
    clear B9 LL
    obtain ⟨h, hh0, hh, rfl, N5, hB5⟩ := hrel
    have e0 := N5.cell 0
    rw [ncells_num _ 0 (by omega), HM.out.1] at e0
    by_cases hlt : h < Hn
    · have hh4 : h < 4 := by omega
      have hI1 : (h : Int) < (Hn : Int) := by omega
      have hI4 : (h : Int) < 4 := by omega
      have hfo := HF.out h hh0 hlt
      rw [← HM.out.2.1 h, ← HM.out.2.2 h] at hfo
      have hvb : ∀ r, r < 6 → VBd ((M.heard h).pr r) := fun r hr => by rw [HM.out.2.2 h]; exact HV.out h r hr
      obtain ⟨s, hs⟩ : ∃ s, M.settled h = s := ⟨_, rfl⟩
      rw [hs] at hfo
      have HFO : Hid _ := hfo
      have HVB : Hid _ := hvb
      have HSS : Hid (M.settled h = s) := hs
      clear hfo hs hvb
      go_wp2
      go_loopw [11, 43] (fun fb j W => ∃ r : Nat, r ≤ 6 ∧ j = .int .i64 (r : Int) ∧ fb = .bool (foundS (M.heard h) s r) ∧ Blk W p M.cells 34 ∧ Below w.heap.size w W) (fun _ j _ => 6 - (intOf j).toNat)
      case atStart => exact ⟨0, by omega, rfl, rfl, N5, hB5⟩
      case round =>
        clear N5 hB5 e0
        obtain ⟨r, hr, rfl, rfl, N6, hB6⟩ := hrel
        by_cases hr6 : r < 6
        · have hrI : (r : Int) < 6 := by omega
          have hpr := promises_range N6 h r hh4 hr6
          have hmo := fun W => most_any ((M.heard h).pr r) (HVB.out r hr6) W
          have HFS : Hid (foundS (M.heard h) s (r + 1) = (foundS (M.heard h) s r || ((mostV ((M.heard h).pr r)).2 && ((mostV ((M.heard h).pr r)).1 == s) && (M.heard h).is r && ((M.heard h).val r == (mostV ((M.heard h).pr r)).1)))) := show _ = _ from rfl
          have HCR : Hid (∀ W, Blk W p M.cells 34 → W.rangeAt p (13 + h * 66 + r * 3) (callA (M.heard h) r).toList) := fun W hW => call_range' hW h r hh4 hr6
          generalize foundS (M.heard h) s r = fb at HFS ⊢
          generalize (mostV ((M.heard h).pr r)).1 = mv at hmo HFS
          generalize (mostV ((M.heard h).pr r)).2 = mo at hmo HFS
          have hmo' : ∀ W, Calls Try.prog 17 #[.agg (four ((M.heard h).pr r))] W fun e w' => e = .returned (.tuple #[.int .i64 mv, .bool mo]) ∧ Below W.heap.size W w' := hmo
          have HMo : Hid _ := hmo'
          clear hmo hmo'
          generalize (M.heard h).pr r = V at hpr HMo
          have hi3' := hi3 (M.heard h) r
          have ho3' := ho3 (M.heard h) r
          have HCC : Hid ((callA (M.heard h) r)[0]? = some (.bool ((M.heard h).is r)) ∧ (callA (M.heard h) r)[1]? = some (.int .i64 ((M.heard h).val r))) := ⟨rfl, rfl⟩
          have hcs : (callA (M.heard h) r).size = 3 := rfl
          generalize callA (M.heard h) r = C at HCR hi3' ho3' HCC hcs
          generalize (M.heard h).is r = ci at HFS HCC
          generalize (M.heard h).val r = cv at HFS HCC
          rename World => w6
          go_upto_region 13 with (first
            | (refine wpList_load_part (by rfl) 27 _ rfl p (13 + h * 66 + 42 + r * 4) (by first | rfl | simp) (four V) _ hpr Try.underlying27 rfl (hi4 _) ?_)
            | (go_at_call 17; refine (HMo.out _).mono ?_; rintro e w7 ⟨rfl, L7⟩; have N7 := N6.below L7; have hcr := HCR.out w7 N7; have Z7 : Blk (w7.alloc (.cells zC 24)) w7.heap.size zC 24 := Blk.new w7 _ _; have La : Below w7.heap.size w7 (w7.alloc (.cells zC 24)) := (by go_grown))
            | (refine wpList_load_part (by rfl) 24 _ rfl p (13 + h * 66 + r * 3) (by first | rfl | simp) C _ hcr Try.underlying24 rfl hi3' ?_)
            | (refine wpList_store_blk rfl 24 _ _ rfl w7.heap.size zC C 24 rfl rfl Z7 (by rw [hcs]; rfl) hi3' ho3' ?_; rintro w8 B8 K8; have L8 := K8.bel _ _ (Nat.le_refl _) La))
          have N8 := N7.below L8
          have hB8 := bel_trans (bel_trans hB6 L7) L8
          have es := N8.cell (277 + h)
          rw [ncells_settled _ _ hh4, HSS.out] at es
          have c0 := B8.cell 0
          rw [HCC.out.1] at c0
          have c1 := B8.cell 1
          rw [HCC.out.2] at c1
          clear N6 hB6 L7 L8 K8 Z7 La hpr hcr B8 N7
          have hend : ∀ b, b = foundS (M.heard h) s (r + 1) → Hid (Value.bool b = .bool (foundS (M.heard h) s (r + 1))) := fun b hb => by show _ = _; rw [hb]
          have HEnd : Hid _ := hend
          clear hend
          cases fb
          · cases mo
            · go_wp2
              go_roundw
              case rel => exact ⟨r + 1, by omega, by go_num, by rw [HFS.out]; rfl, N8, hB8⟩
              case measure => simp [intOf]; omega
            · cases h2 : (mv == s)
              · go_wp2
                go_roundw
                case rel => exact ⟨r + 1, by omega, by go_num, by rw [HFS.out, h2]; rfl, N8, hB8⟩
                case measure => simp [intOf]; omega
              · cases ci
                · go_wp2
                  go_roundw
                  case rel => exact ⟨r + 1, by omega, by go_num, by rw [HFS.out, h2]; rfl, N8, hB8⟩
                  case measure => simp [intOf]; omega
                · cases h3 : (cv == mv)
                  · go_wp2
                    go_roundw
                    case rel => exact ⟨r + 1, by omega, by go_num, by rw [HFS.out, h2, h3]; rfl, N8, hB8⟩
                    case measure => simp [intOf]; omega
                  · go_wp2
                    go_roundw
                    case rel => exact ⟨r + 1, by omega, by go_num, by rw [HFS.out, h2, h3]; rfl, N8, hB8⟩
                    case measure => simp [intOf]; omega
          · go_wp2
            go_roundw
            case rel => exact ⟨r + 1, by omega, by go_num, by rw [HFS.out]; rfl, N8, hB8⟩
            case measure => simp [intOf]; omega
        · have hr7 : r = 6 := by omega
          subst hr7
          rw [HFO.out]
          go_wp2
          go_roundw
          case rel => exact ⟨h + 1, by omega, by omega, by go_num, N6, hB6⟩
          case measure => simp [intOf]; omega
    · have hI1 : ¬ (h : Int) < (Hn : Int) := by omega
      go_wp2
      go_ret
      exact ⟨rfl, hB5⟩

theorem nodeSettles_any (n : NI) (l : List Int) (who : Int) (v : Wd) (w : World) (hq : Ints w n.q l) (hl : l.length * 8 ≤ 140737488355328) :
    Calls Try.prog 3 #[.agg n.cells, .int .i64 who, .agg (wA v)] w fun e w' => e = .returned (.bool true) ∧ Below w.heap.size w w' := by
  obtain ⟨o, m, l', ws, code, hS, hcon, hO⟩ := nhear_says n l who v hl
  cases o with
  | none => exact settles_code n l who v m l' ws code hcon w hq hS.2.2.2
  | some a =>
    obtain ⟨rfl, rfl, rfl, rfl⟩ := hS
    obtain ⟨hg, gv, whon, h, rfl, hw4, hvh, rfl⟩ := hO a rfl
    obtain ⟨G, e1, _, _⟩ := gn_of hg
    have F1 : FI ⟨(n.nd l).setSheet h (hearW ((n.nd l).heard h) v), []⟩ := FI.start (G.hear h v)
    have G2 : GN (follow whon ⟨(n.nd l).setSheet h (hearW ((n.nd l).heard h) v), []⟩).n := (follow_ends (who := whon) _ _ F1 (Nat.le_refl _)).2.good
    have SB : SetBy (n.nd l) (follow whon ⟨(n.nd l).setSheet h (hearW ((n.nd l).heard h) v), []⟩) := (setBy_steady whon (n.nd l)).follow F1 ⟨Nat.le_refl _, fun k h1 h2 => by
      have h2' : k < (n.nd l).height := h2
      omega⟩
    exact settles_ok n l (whon : Int) v _ _ _ (n.nd l).height (follow whon ⟨(n.nd l).setSheet h (hearW ((n.nd l).heard h) v), []⟩).n.height e1 rfl G.height G2.height hcon w hq (fun k r hr => (G2.votes k hr).2) (fun k h1 h2 => foundS_of (G2.low k h2) (SB.2 k h1 h2))
end Go.Proofs.Ytmmgaonlmpajbab
