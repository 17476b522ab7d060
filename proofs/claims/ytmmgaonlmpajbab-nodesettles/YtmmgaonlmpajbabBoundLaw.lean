/-
  The statement TopBound.
-/
import Derived.Test.YtmmgaonlmpajbabClientsLaw
namespace Go.Proofs.Ytmmgaonlmpajbab
open Go.RowKit

/-- Of the first k nodes: how many that are true have promised the value, as they themselves say. -/
def cntB (liar s : Int) (V O : Nat → Int) : Nat → Nat
  | 0 => 0
  | k + 1 => cntB liar s V O k + if (((k : Int) != liar) && (V k == s + 1) && (O k == V k)) = true then 1 else 0
theorem cntB_le (liar s : Int) (V O : Nat → Int) : ∀ k, cntB liar s V O k ≤ k
  | 0 => Nat.le_refl _
  | k + 1 => by
    have := cntB_le liar s V O k
    show cntB liar s V O k + (if _ then 1 else 0) ≤ k + 1
    split <;> omega
/-- Is there such a round among the first r? -/
def foundR (liar s : Int) (V O : Nat → Nat → Int) : Nat → Bool
  | 0 => false
  | r + 1 => foundR liar s V O r || decide (2 ≤ cntB liar s (V r) (O r) 4)
theorem cntB_ge {liar s : Int} {V O : Nat → Int} (h : ∀ k : Nat, k < 4 → (k : Int) ≠ liar → V k ≠ 0 → V k = O k) : ∀ k : Nat, k ≤ 4 → cntTo V (fun x => x == s) k ≤ (cntB liar s V O k : Int) + (if 0 ≤ liar ∧ liar < k then 1 else 0)
  | 0, _ => by
    show (0 : Int) ≤ ((0 : Nat) : Int) + _
    split <;> omega
  | k + 1, hk => by
    have ih := cntB_ge (s := s) h k (by omega)
    have e1 : cntTo V (fun x => x == s) (k + 1) = cntTo V (fun x => x == s) k + if 1 ≤ V k ∧ (fun x : Int => x == s) (V k - 1) = true then 1 else 0 := rfl
    have e2 : cntB liar s V O (k + 1) = cntB liar s V O k + if (((k : Int) != liar) && (V k == s + 1) && (O k == V k)) = true then 1 else 0 := rfl
    rw [e1, e2]
    by_cases c1 : 1 ≤ V k ∧ (fun x : Int => x == s) (V k - 1) = true
    · rw [if_pos c1]
      have c2 : V k - 1 = s := by simpa using c1.2
      by_cases c3 : (k : Int) = liar
      · rw [if_pos (show 0 ≤ liar ∧ liar < ((k + 1 : Nat) : Int) by omega)]
        rw [if_neg (show ¬ (0 ≤ liar ∧ liar < (k : Int)) by omega)] at ih
        have : (0 : Int) ≤ ((if (((k : Int) != liar) && (V k == s + 1) && (O k == V k)) = true then 1 else 0 : Nat) : Int) := by omega
        omega
      · have c4 := h k (by omega) c3 (by omega)
        rw [if_pos (show (((k : Int) != liar) && (V k == s + 1) && (O k == V k)) = true by
          have c5 : V k = s + 1 := by omega
          simp [c3, ← c4, c5])]
        by_cases c6 : 0 ≤ liar ∧ liar < (k : Int)
        · rw [if_pos (show 0 ≤ liar ∧ liar < ((k + 1 : Nat) : Int) by omega)]
          rw [if_pos c6] at ih
          omega
        · rw [if_neg c6] at ih
          rw [if_neg (show ¬ (0 ≤ liar ∧ liar < ((k + 1 : Nat) : Int)) by omega)]
          omega
    · rw [if_neg c1]
      have : (0 : Int) ≤ ((if (((k : Int) != liar) && (V k == s + 1) && (O k == V k)) = true then 1 else 0 : Nat) : Int) := by omega
      by_cases c6 : 0 ≤ liar ∧ liar < (k : Int)
      · rw [if_pos (show 0 ≤ liar ∧ liar < ((k + 1 : Nat) : Int) by omega)]
        rw [if_pos c6] at ih
        omega
      · rw [if_neg c6] at ih
        split <;> omega
theorem foundR_of {liar s : Int} {V O : Nat → Nat → Int} (h : ∀ r k : Nat, k < 4 → (k : Int) ≠ liar → V r k ≠ 0 → V r k = O r k) (hr : ∃ r, r < 6 ∧ 3 ≤ cntV (V r) s) : foundR liar s V O 6 = true := by
  obtain ⟨r, h6, h3⟩ := hr
  have h2 : 2 ≤ cntB liar s (V r) (O r) 4 := by
    have := cntB_ge (s := s) (h r) 4 (Nat.le_refl _)
    have h3' : 3 ≤ cntTo (V r) (fun x => x == s) 4 := h3
    split at this <;> omega
  have key : ∀ m : Nat, r < m → foundR liar s V O m = true := by
    intro m
    induction m with
    | zero => intro hm; omega
    | succ m ih =>
      intro hm
      show (foundR liar s V O m || decide (2 ≤ cntB liar s (V m) (O m) 4)) = true
      by_cases e : r = m
      · subst e; simp [h2]
      · simp [ih (by omega)]
  exact key 6 h6

/-- The sheets of a node, the promises of a sheet. -/
def hsA (n : NI) : Array Value := ((List.range 264).map fun j => ncellAt n (13 + j)).toArray
def prA (S : Sh) : Array Value := ((List.range 24).map fun j => Value.int .i64 (S.pr (j / 4) (j % 4))).toArray
theorem field_heard (n : NI) (W : World) : Sem.run Try.prog (Instr.field 34 (.agg n.cells) 8) W = .ok (.agg (hsA n)) W := by show _ = _; kernel_rfl
theorem field_promises (S : Sh) (W : World) : Sem.run Try.prog (Instr.field 30 (.agg S.cells) 2) W = .ok (.agg (prA S)) W := by show _ = _; kernel_rfl
theorem index_heard (n : NI) (h : Nat) (hh : h < 4) (W : World) : Sem.run Try.prog (Instr.index 31 (.agg (hsA n)) (.int .i64 (h : Int))) W = .ok (.agg (n.heard h).cells) W := by
  have hk : h = 0 ∨ h = 1 ∨ h = 2 ∨ h = 3 := by omega
  rcases hk with rfl | rfl | rfl | rfl
  · show _ = _; kernel_rfl
  · show _ = _; kernel_rfl
  · show _ = _; kernel_rfl
  · show _ = _; kernel_rfl
theorem index_promises (S : Sh) (r : Nat) (hr : r < 6) (W : World) : Sem.run Try.prog (Instr.index 28 (.agg (prA S)) (.int .i64 (r : Int))) W = .ok (.agg (four (S.pr r))) W := by
  have hk : r = 0 ∨ r = 1 ∨ r = 2 ∨ r = 3 ∨ r = 4 ∨ r = 5 := by omega
  rcases hk with rfl | rfl | rfl | rfl | rfl | rfl
  · show _ = _; kernel_rfl
  · show _ = _; kernel_rfl
  · show _ = _; kernel_rfl
  · show _ = _; kernel_rfl
  · show _ = _; kernel_rfl
  · show _ = _; kernel_rfl
theorem index_votes (f : Nat → Int) (k : Nat) (h : k < 4) (W : World) : Sem.run Try.prog (Instr.index 27 (.agg (four f)) (.int .i64 (k : Int))) W = .ok (.int .i64 (f k)) W := by
  have hk : k = 0 ∨ k = 1 ∨ k = 2 ∨ k = 3 := by omega
  rcases hk with rfl | rfl | rfl | rfl
  · show _ = _; kernel_rfl
  · show _ = _; kernel_rfl
  · show _ = _; kernel_rfl
  · show _ = _; kernel_rfl
theorem promises_range {W : World} {b : Nat} {n : NI} {t : TypeId} (B : Blk W b n.cells t) (h r : Nat) (hh : h < 4) (hr : r < 6) : W.rangeAt b (13 + h * 66 + 42 + r * 4) (four ((n.heard h).pr r)).toList := by
  intro j u hu
  have hj : j < 4 := by
    by_cases hlt : j < 4
    · exact hlt
    · rw [List.getElem?_eq_none (by show (four ((n.heard h).pr r)).toList.length ≤ j; simp [four]; omega)] at hu; cases hu
  rw [B.cell, show 13 + h * 66 + 42 + r * 4 + j = 13 + h * 66 + (42 + r * 4 + j) by omega, ncells_heard _ _ _ hh (by omega), cellAt_pr _ _ _ hr hj]
  rw [Array.getElem?_toList, four_at _ j hj] at hu
  exact hu

set_option maxRecDepth 100000 in
set_option maxHeartbeats 8000000 in
theorem topBound_any (n : Int) (l : List Ac) (s : Value) (w : World) (hs : ActsAt w s l) (hlen : l.length < 4611686018427387904) :
    Calls Try.prog 12 #[.int .i64 n, s] w fun e w' => e = .returned (.bool true) ∧ Below w.heap.size w w' := by
  have hl := liesV_bd n
  have T := playC_TI hl l (most l)
  have hplay := fun W (hW : Below w.heap.size w W) => play_gen 28 #[] (liesV n) hl l s w W (fun _ _ => True) (fun W' hW' => hs.keep hW') hlen hW trivial (looks_quiet _ l w)
  have hliar := playC_liar (liesV n) l (most l)
  generalize playC (liesV n) l (most l) = c at hplay hliar T
  have hfound : ∀ i h : Nat, i < 4 → (i : Int) ≠ liesV n → h < (c.nd i).height → (1 ≤ (c.nd i).settled h ∧ (c.nd i).settled h ≤ 9) ∧ foundR (liesV n) ((c.nd i).settled h) (fun r => ((c.nd i).heard h).pr r) (fun r k => ((c.nd k).heard h).pr r k) 6 = true := fun i h hi ti hh => by
    obtain ⟨r, h6, a, b, h3⟩ := (T.inv.set i hi).why h hh
    exact ⟨⟨a, b⟩, foundR_of (fun r k hk tk hne => T.inv.authP k i h r hk hi (by show (k : Int) ≠ c.liar; rw [hliar]; exact tk) hne) ⟨r, h6, h3⟩⟩
  have hql : ∀ i, i < 4 → (c.nd i).queue.length ≤ 6 := fun i hi => (T.good.nd i hi).good.qlen
  have hhe : ∀ i, i < 4 → (c.nd i).height ≤ 4 := fun i hi => (T.good.nd i hi).good.height
  have hz := run_zeroN
  have hi4 : ∀ f : Nat → Int, (Try.prog.info? 27).map (·.size) = some (four f).size := fun f => by show _ = some 4; kernel_rfl
  have hf8 := field_heard
  have hf2 := field_promises
  have HP : Hid _ := hplay
  have HF : Hid _ := hfound
  clear hplay hfound T hliar
  obtain ⟨sa, sc, hsv⟩ := hs.len
  subst hsv
  clear hs
  go_enter Try.func12, Try.ntmps12
  go_wp2_with (first
    | (go_at_call 26; refine (lies_any n _).mono ?_; rintro e w' ⟨rfl, hw'⟩; obtain rfl := hw'.symm)
    | (go_at_call 27; refine (HP.out w (Below.refl _ _)).mono ?_; rintro e w1 ⟨g, q, nt, rfl, hg, H1, hnt, _, hsz1, hB1⟩))
  generalize liesV n = liar at *
  go_loopw [25] (fun j W => ∃ i : Nat, i ≤ 4 ∧ j = .int .i64 (i : Int) ∧ CwAt W g 93 c q nt ∧ Below w.heap.size w W) (fun j _ => 4 - (intOf j).toNat)
  case atStart => exact ⟨0, by omega, rfl, H1, hB1⟩
  case round =>
    clear H1 hB1
    obtain ⟨i, hi, rfl, H2, hB2⟩ := hrel
    by_cases hi4' : i < 4
    · have hiI : (i : Int) < 4 := by omega
      have hn := node_any H2 i hi4' (hql i hi4')
      rename World => w2
      go_wp2_with (first
        | (go_at_call 23; refine hn.mono ?_; clear hn; rintro e w3 ⟨q3, rfl, hown3, L3⟩; have hi5 := infoN ((c.nd i).ni q3); have Z3 : Blk (w3.alloc (.cells zN.cells 34)) w3.heap.size zN.cells 34 := Blk.new w3 _ _; have La : Below w3.heap.size w3 (w3.alloc (.cells zN.cells 34)) := (by go_grown))
        | (refine wpList_store_blk rfl 34 _ _ rfl w3.heap.size zN.cells ((c.nd i).ni q3).cells 34 rfl rfl Z3 (by rw [ncells_size, ncells_size]) hi5 (one_cellN _ (own_one hown3)) ?_; rintro w4 N4 K4; have L4 := K4.bel _ _ (Nat.le_refl _) La; clear Z3 La K4))
      have H4 := (H2.keep L3).keep L4
      have hB4 := bel_trans (bel_trans hB2 L3) L4
      clear H2 hB2 hown3 L3 L4
      have HM : Hid ((((c.nd i).ni q3).num 0 = ((c.nd i).height : Int)) ∧ (∀ h, ((c.nd i).ni q3).settled h = (c.nd i).settled h) ∧ (∀ h, ((c.nd i).ni q3).heard h = (c.nd i).heard h)) := ⟨rfl, fun _ => rfl, fun _ => rfl⟩
      have hhi := hhe i hi4'
      have HF2 := fun h => HF.out i h hi4'
      generalize ((c.nd i).ni q3) = m at *
      generalize w3.heap.size = p at N4 ⊢
      obtain ⟨Hn, hHn⟩ : ∃ Hn : Nat, (c.nd i).height = Hn := ⟨_, rfl⟩
      rw [hHn] at HM hhi HF2
      have HF3 : Hid _ := HF2
      clear HF2 hHn
      go_loopw [9] (fun j W => ∃ h : Nat, h ≤ 4 ∧ j = .int .i64 (h : Int) ∧ CwAt W g 93 c q nt ∧ Blk W p m.cells 34 ∧ Below w.heap.size w W) (fun j _ => 4 - (intOf j).toNat)
      case atStart => exact ⟨0, by omega, rfl, H4, N4, hB4⟩
      case round =>
        clear H4 N4 hB4
        obtain ⟨h, hh, rfl, H5, N5, hB5⟩ := hrel
        have e0 := N5.cell 0
        rw [ncells_num _ 0 (by omega), HM.out.1] at e0
        by_cases hlt : h < Hn
        · have hh4 : h < 4 := by omega
          have hI1 : (h : Int) < (Hn : Int) := by omega
          have hI4 : (h : Int) < 4 := by omega
          cases c1 : ((i : Int) != liar)
          · go_wp2
            go_roundw
            case rel => exact ⟨i + 1, by omega, by go_num, H5, hB5⟩
            case measure => simp [intOf]; omega
          · have hfo := HF3.out h (by simpa using c1) hlt
            rw [← HM.out.2.1 h, ← HM.out.2.2 h] at hfo
            obtain ⟨v, hv⟩ : ∃ v, m.settled h = v := ⟨_, rfl⟩
            rw [hv] at hfo
            obtain ⟨hv1, hv9⟩ := hfo.1
            have HFO : Hid _ := hfo.2
            have HV : Hid (m.settled h = v) := hv
            clear hfo hv
            go_wp2
            go_loopw [10, 46] (fun fb j W => ∃ r : Nat, r ≤ 6 ∧ j = .int .i64 (r : Int) ∧ fb = .bool (foundR liar v (fun r => (m.heard h).pr r) (fun r k => ((c.nd k).heard h).pr r k) r) ∧ CwAt W g 93 c q nt ∧ Blk W p m.cells 34 ∧ Below w.heap.size w W) (fun _ j _ => 6 - (intOf j).toNat)
            case atStart => exact ⟨0, by omega, rfl, rfl, H5, N5, hB5⟩
            case round =>
              clear H5 N5 hB5 e0
              obtain ⟨r, hr, rfl, rfl, H6, N6, hB6⟩ := hrel
              by_cases hr6 : r < 6
              · have hrI : (r : Int) < 6 := by omega
                have hpr := promises_range N6 h r hh4 hr6
                have HFS : Hid (foundR liar v (fun r => (m.heard h).pr r) (fun r k => ((c.nd k).heard h).pr r k) (r + 1) = (foundR liar v (fun r => (m.heard h).pr r) (fun r k => ((c.nd k).heard h).pr r k) r || decide (2 ≤ cntB liar v ((m.heard h).pr r) (fun k => ((c.nd k).heard h).pr r k) 4))) := rfl
                generalize foundR liar v (fun r => (m.heard h).pr r) (fun r k => ((c.nd k).heard h).pr r k) r = fb at HFS ⊢
                generalize (m.heard h).pr r = V at hpr HFS
                have hix31 := fun n => index_heard n h hh4
                have hix28 := fun S => index_promises S r hr6
                go_wp2_with (first
                  | (refine wpList_load_part (by rfl) 27 _ rfl p (13 + h * 66 + 42 + r * 4) (by first | rfl | simp) (four V) _ hpr Try.underlying27 rfl (hi4 _) ?_))
                go_loopw [12, 56] (fun cn j W => ∃ k : Nat, k ≤ 4 ∧ j = .int .i64 (k : Int) ∧ cn = .int .i64 ((cntB liar v V (fun k => ((c.nd k).heard h).pr r k) k : Nat) : Int) ∧ CwAt W g 93 c q nt ∧ Blk W p m.cells 34 ∧ Below w.heap.size w W) (fun _ j _ => 4 - (intOf j).toNat)
                case atStart => exact ⟨0, by omega, rfl, rfl, H6, N6, hB6⟩
                case round =>
                  clear H6 N6 hB6 hpr
                  obtain ⟨k, hk, rfl, rfl, H7, N7, hB7⟩ := hrel
                  have hle := cntB_le liar v V (fun k => ((c.nd k).heard h).pr r k) k
                  by_cases hk4 : k < 4
                  · have hkI : (k : Int) < 4 := by omega
                    have HCS : Hid (cntB liar v V (fun k => ((c.nd k).heard h).pr r k) (k + 1) = cntB liar v V (fun k => ((c.nd k).heard h).pr r k) k + if (((k : Int) != liar) && (V k == v + 1) && (((c.nd k).heard h).pr r k == V k)) = true then 1 else 0) := rfl
                    generalize cntB liar v V (fun k => ((c.nd k).heard h).pr r k) k = cn at HCS hle ⊢
                    have es := N7.cell (277 + h)
                    rw [ncells_settled _ _ hh4, HV.out] at es
                    have hn := node_any H7 k hk4 (hql k hk4)
                    obtain ⟨o, ho⟩ : ∃ o, ((c.nd k).heard h).pr r k = o := ⟨_, rfl⟩
                    have hix27 : ∀ q W, Sem.run Try.prog (Instr.index 27 (.agg (four ((((c.nd k).ni q).heard h).pr r))) (.int .i64 (k : Int))) W = .ok (.int .i64 o) W := fun q W => by
                      have h1 := index_votes ((((c.nd k).ni q).heard h).pr r) k hk4 W
                      rw [show (((c.nd k).ni q).heard h).pr r k = o from ho] at h1
                      exact h1
                    rw [ho] at HCS
                    have hixk := index_votes V k hk4
                    clear ho
                    generalize V k = u at hixk HCS
                    cases c2 : ((k : Int) != liar)
                    · clear hn
                      go_wp2
                      go_roundw
                      case rel => exact ⟨k + 1, by omega, by go_num, by rw [HCS.out, c2]; rfl, H7, N7, hB7⟩
                      case measure => simp [intOf]; omega
                    · cases c3 : (u == v + 1)
                      · clear hn
                        go_wp2
                        go_roundw
                        case rel => exact ⟨k + 1, by omega, by go_num, by rw [HCS.out, c2, c3]; rfl, H7, N7, hB7⟩
                        case measure => simp [intOf]; omega
                      · cases c4 : (o == u)
                        · go_wp2_with (first | (go_at_call 23; refine hn.mono ?_; clear hn; rintro e w8 ⟨q8, rfl, hown8, L8⟩))
                          go_roundw
                          case rel => exact ⟨k + 1, by omega, by go_num, by rw [HCS.out, c2, c3, c4]; rfl, H7.keep L8, N7.below L8, bel_trans hB7 L8⟩
                          case measure => simp [intOf]; omega
                        · go_wp2_with (first | (go_at_call 23; refine hn.mono ?_; clear hn; rintro e w8 ⟨q8, rfl, hown8, L8⟩))
                          go_roundw
                          case rel => exact ⟨k + 1, by omega, by go_num, by rw [HCS.out, c2, c3, c4]; go_num, H7.keep L8, N7.below L8, bel_trans hB7 L8⟩
                          case measure => simp [intOf]; omega
                  · have hk5 : Hid (k = 4) := show k = 4 by omega
                    obtain ⟨cn, hcn⟩ : ∃ cn, cntB liar v V (fun k => ((c.nd k).heard h).pr r k) k = cn := ⟨_, rfl⟩
                    have HCN : Hid (cntB liar v V (fun k => ((c.nd k).heard h).pr r k) 4 = cn) := show _ = _ by rw [← hk5.out]; exact hcn
                    rw [hcn] at hle ⊢
                    clear hcn
                    cases fb
                    · by_cases h2 : 2 ≤ cn
                      · have h2I : (2 : Int) ≤ (cn : Int) := by omega
                        go_wp2
                        go_roundw
                        case rel => exact ⟨r + 1, by omega, by go_num, by rw [HFS.out, HCN.out, decide_eq_true h2]; rfl, H7, N7, hB7⟩
                        case measure => simp [intOf]; omega
                      · have h2I : ¬ (2 : Int) ≤ (cn : Int) := by omega
                        go_wp2
                        go_roundw
                        case rel => exact ⟨r + 1, by omega, by go_num, by rw [HFS.out, HCN.out, decide_eq_false h2]; rfl, H7, N7, hB7⟩
                        case measure => simp [intOf]; omega
                    · go_wp2
                      go_roundw
                      case rel => exact ⟨r + 1, by omega, by go_num, by rw [HFS.out]; rfl, H7, N7, hB7⟩
                      case measure => simp [intOf]; omega
              · have hr7 : r = 6 := by omega
                subst hr7
                rw [HFO.out]
                go_wp2
                go_roundw
                case rel => exact ⟨h + 1, by omega, by go_num, H6, N6, hB6⟩
                case measure => simp [intOf]; omega
        · have hI1 : ¬ (h : Int) < (Hn : Int) := by omega
          go_wp2
          go_roundw
          case rel => exact ⟨i + 1, by omega, by go_num, H5, hB5⟩
          case measure => simp [intOf]; omega
    · go_wp2
      go_ret
      exact ⟨rfl, hB2⟩
end Go.Proofs.Ytmmgaonlmpajbab
