/-
  The statement TopAgree.
-/
import Derived.Test.YtmmgaonlmpajbabTPlay
import Derived.Test.YtmmgaonlmpajbabTopInv
namespace Go.Proofs.Ytmmgaonlmpajbab
open Go.RowKit

theorem playC_TI {liar : Int} (hl : -1 ≤ liar ∧ liar ≤ 3) (l : List Ac) : ∀ k, TI (playC liar l k)
  | 0 => new_TI hl
  | k + 1 => by
    cases h : l[k]? with
    | none =>
      have e : playC liar l (k + 1) = playC liar l k := by
        unfold playC
        rw [List.take_add_one, h]; simp
      rw [e]; exact playC_TI hl l k
    | some a => rw [playC_succ h]; exact do_TI (playC_TI hl l k) a

abbrev z4 : Array Value := #[.int .i64 0, .int .i64 0, .int .i64 0, .int .i64 0]

set_option maxRecDepth 100000 in
set_option maxHeartbeats 8000000 in
theorem topAgree_any (n : Int) (l : List Ac) (s : Value) (w : World) (hs : ActsAt w s l) (hlen : l.length < 4611686018427387904) :
    Calls Try.prog 7 #[.int .i64 n, s] w fun e w' => e = .returned (.bool true) ∧ Below w.heap.size w w' := by
  have hl := liesV_bd n
  have T := playC_TI hl l (most l)
  have hplay := fun W (hW : Below w.heap.size w W) => play_gen 28 #[] (liesV n) hl l s w W (fun _ _ => True) (fun W' hW' => hs.keep hW') hlen hW trivial (looks_quiet _ l w)
  have hagree : ∀ i k h : Nat, i < 4 → k < 4 → h < 4 → ((playC (liesV n) l (most l)).nd i).settled h ≠ 0 → ((playC (liesV n) l (most l)).nd k).settled h ≠ 0 → ((playC (liesV n) l (most l)).nd i).settled h = ((playC (liesV n) l (most l)).nd k).settled h := fun i k h hi hk hh a b => T.inv.agree hi hk hh a b
  have hql : ∀ i, i < 4 → ((playC (liesV n) l (most l)).nd i).queue.length ≤ 6 := fun i hi => (T.good.nd i hi).good.qlen
  have hf := field_settled
  have hi4 : ∀ f : Nat → Int, (Try.prog.info? 26).map (·.size) = some (four f).size := fun f => by show _ = some 4; kernel_rfl
  generalize playC (liesV n) l (most l) = c at hplay hagree hql
  have HP : Hid _ := hplay
  have HA : Hid _ := hagree
  clear hplay hagree T
  obtain ⟨sa, sc, hsv⟩ := hs.len
  subst hsv
  clear hs
  go_enter Try.func7, Try.ntmps7
  go_wp2_with (first
    | (go_at_call 26; refine (lies_any n _).mono ?_; rintro e w' ⟨rfl, hw'⟩; obtain rfl := hw'.symm)
    | (go_at_call 27; refine (HP.out w (Below.refl _ _)).mono ?_; rintro e w1 ⟨g, q, nt, rfl, hg, H1, hnt, _, hsz1, hB1⟩))
  generalize liesV n = liar at *
  go_loopw [22] (fun j W => ∃ i : Nat, i ≤ 4 ∧ j = .int .i64 (i : Int) ∧ CwAt W g 93 c q nt ∧ Below w.heap.size w W) (fun j _ => 4 - (intOf j).toNat)
  case atStart => exact ⟨0, by omega, rfl, H1, hB1⟩
  case round =>
    clear H1 hB1
    obtain ⟨i, hi, rfl, H2, hB2⟩ := hrel
    by_cases hi4' : i < 4
    · have hiI : (i : Int) < 4 := by omega
      go_wp2
      go_loopw [26] (fun j W => ∃ k : Nat, k ≤ i ∧ j = .int .i64 (k : Int) ∧ CwAt W g 93 c q nt ∧ Below w.heap.size w W) (fun j _ => i - (intOf j).toNat)
      case atStart => exact ⟨0, by omega, rfl, H2, hB2⟩
      case round =>
        clear H2 hB2
        obtain ⟨k, hk, rfl, H3, hB3⟩ := hrel
        by_cases hki : k < i
        · have hkI : (k : Int) < (i : Int) := by omega
          cases c1 : ((i : Int) == liar)
          · cases c2 : ((k : Int) == liar)
            · have hn1 := node_any H3 i hi4' (hql i hi4')
              have hn2 := fun W (hW : CwAt W g 93 c q nt) => node_any hW k (by omega) (hql k (by omega))
              have HN2 : Hid _ := hn2
              clear hn2
              rename World => w3
              go_wp2_with (first
                | (go_at_call 23; refine hn1.mono ?_; clear hn1; rintro e w4 ⟨q4, rfl, hown4, L4⟩; have H4 := H3.keep L4)
                | (go_at_call 23; refine (HN2.out w4 H4).mono ?_; rintro e w5 ⟨q5, rfl, hown5, L5⟩; have H5 := H4.keep L5; have Za : Blk ((w5.alloc (.cells z4 26)).alloc (.cells z4 26)) w5.heap.size z4 26 := (Blk.new w5 _ _).alloc _; have Zb : Blk ((w5.alloc (.cells z4 26)).alloc (.cells z4 26)) (w5.heap.size + 1) z4 26 := Blk.new1 w5 _ _ _; have La : Below w5.heap.size w5 ((w5.alloc (.cells z4 26)).alloc (.cells z4 26)) := (by go_grown))
                | (refine wpList_store_blk rfl 26 _ _ rfl w5.heap.size z4 (four ((c.nd i).ni q4).settled) 26 rfl rfl Za rfl (hi4 _) (four_one _) ?_; rintro w6 B6 K6; have Zb6 := K6.blk _ _ _ (by omega) Zb; have L6 := K6.bel _ _ (Nat.le_refl _) La)
                | (refine wpList_store_blk rfl 26 _ _ rfl (w5.heap.size + 1) z4 (four ((c.nd k).ni q5).settled) 26 rfl rfl Zb6 rfl (hi4 _) (four_one _) ?_; rintro w7 B7 K7; have A7 := K7.blk _ _ _ (by omega) B6; have L7 := K7.bel _ _ (by omega) L6))
              have H7 := H5.keep L7
              have hB7 : Below w.heap.size w w7 := bel_trans (bel_trans (bel_trans hB3 L4) L5) L7
              go_loopw [45] (fun j W => ∃ h : Nat, h ≤ 4 ∧ j = .int .i64 (h : Int) ∧ CwAt W g 93 c q nt ∧ Blk W w5.heap.size (four (c.nd i).settled) 26 ∧ Blk W (w5.heap.size + 1) (four (c.nd k).settled) 26 ∧ Below w.heap.size w W) (fun j _ => 4 - (intOf j).toNat)
              case atStart => exact ⟨0, by omega, rfl, H7, A7, B7, hB7⟩
              case round =>
                clear H7 A7 B7 hB7
                obtain ⟨h, hh, rfl, H8, A8, B8, hB8⟩ := hrel
                by_cases hh4 : h < 4
                · have hhI : (h : Int) < 4 := by omega
                  have ea := A8.cell h
                  rw [four_at _ h hh4] at ea
                  have eb := B8.cell h
                  rw [four_at _ h hh4] at eb
                  have hag := HA.out i k h hi4' (by omega) hh4
                  generalize (c.nd i).settled h = u at ea hag
                  generalize (c.nd k).settled h = v at eb hag
                  have hrel2 : ∀ m, CwAt (wr.drewN m) g 93 c q nt ∧ Blk (wr.drewN m) w5.heap.size (four (c.nd i).settled) 26 ∧ Blk (wr.drewN m) (w5.heap.size + 1) (four (c.nd k).settled) 26 ∧ Below w.heap.size w (wr.drewN m) := fun m => ⟨⟨H8.blk, H8.que, H8.net⟩, A8.drewN m, B8.drewN m, below_drewN' hB8 m⟩
                  have HR2 : Hid _ := hrel2
                  clear hrel2 H8 A8 B8
                  by_cases hu : u = 0
                  · have hu1 : (u != 0) = false := by simpa using hu
                    clear hu hag
                    go_wp2
                    go_quiet (fail)
                    go_wp2
                    go_roundw
                    case rel => exact ⟨h + 1, by omega, by go_num, HR2.out _⟩
                    case measure => simp [intOf]; omega
                  · have hu1 : (u != 0) = true := by simpa using hu
                    by_cases hv : v = 0
                    · have hv1 : (v != 0) = false := by simpa using hv
                      clear hu hv hag
                      go_wp2
                      go_quiet (fail)
                      go_wp2
                      go_roundw
                      case rel => exact ⟨h + 1, by omega, by go_num, HR2.out _⟩
                      case measure => simp [intOf]; omega
                    · have hv1 : (v != 0) = true := by simpa using hv
                      have huv : (u != v) = false := by simpa using hag hu hv
                      clear hu hv hag
                      go_wp2
                      go_quiet (fail)
                      go_wp2
                      go_roundw
                      case rel => exact ⟨h + 1, by omega, by go_num, HR2.out _⟩
                      case measure => simp [intOf]; omega
                · go_wp2
                  go_roundw
                  case rel => exact ⟨k + 1, by omega, by go_num, H8, hB8⟩
                  case measure => simp [intOf]; omega
            · go_wp2
              go_roundw
              case rel => exact ⟨k + 1, by omega, by go_num, H3, hB3⟩
              case measure => simp [intOf]; omega
          · go_wp2
            go_roundw
            case rel => exact ⟨k + 1, by omega, by go_num, H3, hB3⟩
            case measure => simp [intOf]; omega
        · obtain rfl : k = i := by omega
          go_wp2
          go_roundw
          case rel => exact ⟨k + 1, by omega, by go_num, H3, hB3⟩
          case measure => simp [intOf]; omega
    · go_wp2
      go_ret
      exact ⟨rfl, hB2⟩
end Go.Proofs.Ytmmgaonlmpajbab
