/-
  The statement TopWorks.
-/
import Derived.Test.YtmmgaonlmpajbabWorksC
import Derived.Test.YtmmgaonlmpajbabAgainLaw
namespace Go.Proofs.Ytmmgaonlmpajbab
open Go.RowKit

/-- The first k letters were heard. -/
def HeardTo (c : Cw) (k : Nat) : Prop := ∀ j x, j < k → c.net[j]? = some x → hearW ((c.nd x.1).heard 0) x.2 = (c.nd x.1).heard 0
theorem deliver_WCr {v : Int} (hv : 1 ≤ v ∧ v ≤ 9) {c : Cw} (H : WCr v true c) (h6 : c.acts < 600) {n : Nat} (hn : n < c.net.length) :
    WCr v true (doC c (delAct (n : Int))).1 ∧ (doC c (delAct (n : Int))).1.acts = c.acts + 1 ∧ (∀ k, k ≤ c.net.length → HeardTo c k → HeardTo (doC c (delAct (n : Int))).1 k) ∧ (HeardTo c n → HeardTo (doC c (delAct (n : Int))).1 (n + 1)) ∧ n < (doC c (delAct (n : Int))).1.net.length := by
  have hx : c.net[n]? = some c.net[n] := List.getElem?_eq_getElem hn
  have hm : c.net[n] ∈ c.net := List.getElem_mem _
  generalize c.net[n] = x at hx hm
  have gx : x.2.good := (CW.good hv (H.net x hm)).1
  have e : (doC c (delAct (n : Int))).1 = c.more.did x.1 (hearN x.1 (c.nd x.1) x.2) := by
    rw [doC_del (by omega)]
    unfold deliverC
    rw [show c.more.net[((n : Int)).toNat]? = some x by rw [show ((n : Int)).toNat = n by omega]; exact hx]
    simp only
    rw [if_pos (by omega)]
    unfold hearC
    rw [if_pos (show goodC x.2.k x.2.f x.2.h x.2.r x.2.v x.2.x = 0 from gx)]
    rfl
  have Hm := H.more (by omega)
  obtain ⟨z1, z2, z3⟩ := hear_WCr hv Hm (t := x.1) (w := x.2) hm
  obtain ⟨t, ht⟩ := sendAll_pre x.1 (hearN x.1 (c.nd x.1) x.2).words c.net
  have en : (c.more.did x.1 (hearN x.1 (c.nd x.1) x.2)).net = c.net ++ t := ht
  have ed : ∀ i, (c.more.did x.1 (hearN x.1 (c.nd x.1) x.2)).nd i = if i = x.1 then (hearN x.1 (c.nd x.1) x.2).n else c.nd i := fun _ => rfl
  have keep : ∀ k, k ≤ c.net.length → HeardTo c k → HeardTo (c.more.did x.1 (hearN x.1 (c.nd x.1) x.2)) k := fun k hk hh j y hj hy => by
    rw [en, List.getElem?_append_left (by omega)] at hy
    have h1 := hh j y hj hy
    rw [ed]
    by_cases c1 : y.1 = x.1
    · rw [if_pos c1]
      rw [c1] at h1
      exact z3 y.2 (H.net y (List.mem_of_getElem? hy)) h1
    · rw [if_neg c1]; exact h1
  rw [e]
  refine ⟨z1, rfl, keep, fun hh j y hj hy => ?_, ?_⟩
  · by_cases c2 : j < n
    · exact keep n (by omega) hh j y c2 hy
    · have : j = n := by omega
      subst this
      rw [en, List.getElem?_append_left (by omega), hx] at hy
      obtain rfl := Option.some.inj hy
      rw [ed, if_pos rfl]
      exact z2
  · rw [en, List.length_append]; omega

theorem toldV_all {f : Nat → Int} {v : Int} (hv : 1 ≤ v ∧ v ≤ 9) (h : ∀ i, i < 4 → f i = v) : toldV f = v := by
  obtain ⟨n, hn⟩ : ∃ n : Nat, v = (n : Int) := ⟨v.toNat, by omega⟩
  have ht : ∀ u : Int, tellers f u 4 = if v = u then 4 else 0 := fun u => by
    show ((((0 : Int) + if f 0 = u then 1 else 0) + if f 1 = u then 1 else 0) + if f 2 = u then 1 else 0) + (if f 3 = u then 1 else 0) = _
    rw [h 0 (by omega), h 1 (by omega), h 2 (by omega), h 3 (by omega)]
    split <;> rfl
  rw [hn]
  refine told_some (by omega) (by omega) ?_ (fun j h1 h2 => ?_)
  · rw [ht, if_pos hn]; omega
  · rw [ht, if_neg (by omega)]; omega
/-- The act that reads. -/
def readA : Ac := ⟨6, 0, 0, 0, ⟨0, 0, 0, 0, 0, 0⟩, fun _ => 0⟩
theorem build_readA (W : World) : Sem.run Try.prog (Instr.build 49 #[(0, .int .i64 6)]) W = .ok (.agg (acArr readA)) W := by show _ = _; kernel_rfl
theorem build_subA (v : Int) (W : World) : Sem.run Try.prog (Instr.build 49 #[(0, .int .i64 1), (3, .int .i64 v)]) W = .ok (.agg (acArr (subAct v))) W := by show _ = _; kernel_rfl
theorem do_readA {v : Int} (hv : 1 ≤ v ∧ v ≤ 9) {c : Cw} (h6 : c.acts < 600) (h : ∀ i, i < 4 → (c.nd i).settled 0 = v) : ∃ f : Nat → Int, f 0 = v ∧ (doC c readA).2 = rcells 0 0 f := by
  refine ⟨takeV (toldC c.more (readA.n != 0) readA.tell), ?_, ?_⟩
  · have ht : toldV (fun i => toldC c.more (readA.n != 0) readA.tell i 0) = v := toldV_all hv fun i hi => by
      unfold toldC
      rw [if_neg (fun x => absurd x.1 (by decide))]; exact h i hi
    have hto : toldTo (toldC c.more (readA.n != 0) readA.tell) (0 + 1) = true := by
      show (true && (toldV (fun i => toldC c.more (readA.n != 0) readA.tell i 0) != 0)) = true
      rw [ht]; simp; omega
    unfold takeV
    rw [if_pos hto]; exact ht
  · unfold doC
    rw [if_neg (by omega)]
    rfl
theorem field_settledR (f : Nat → Int) (W : World) : Sem.run Try.prog (Instr.field 52 (.agg (rcells 0 0 f)) 2) W = .ok (.agg (four f)) W := by show _ = _; kernel_rfl
/-- A number brought to 0 to m - 1. -/
theorem mod_bd (a : Int) {m : Int} (hm : 0 < m) : (-m < a.tmod m ∧ a.tmod m < m) ∧ 0 ≤ (a.tmod m + m).tmod m ∧ (a.tmod m + m).tmod m < m := by
  have h1 : a.tmod m < m := Int.tmod_lt_of_pos a hm
  have h2 : -m < a.tmod m := by
    have := Int.lt_tmod_of_pos a hm
    omega
  exact ⟨⟨h2, h1⟩, Int.tmod_nonneg m (by omega), Int.tmod_lt_of_pos _ hm⟩
def valW (n : Int) : Int := n.tmod 9 % 9 + 1
theorem valW_bd (n : Int) : 1 ≤ valW n ∧ valW n ≤ 9 := by
  unfold valW; omega

set_option maxRecDepth 100000 in
set_option maxHeartbeats 8000000 in
theorem topWorks_any (n y : Int) (l : List Int) (s : Value) (w : World) (hs : Ints w s l) (hlen : l.length < 4611686018427387904) :
    Calls Try.prog 13 #[.int .i64 n, .int .i64 y, s] w fun e w' => e = .returned (.bool true) ∧ Below w.heap.size w w' := by
  have hl := liesV_bd n
  have hv := valW_bd y
  have hmy := (mod_bd y (m := 9) (by omega))
  have hmy1 := hmy.1.1
  have hmy2 := hmy.1.2
  have hmy3 := hmy.2.1
  have hmy4 := hmy.2.2
  have HV : Hid (valW y = y.tmod 9 % 9 + 1) := rfl
  have HSub : Hid (WCr (valW y) true (doC (newC (liesV n)) (subAct (valW y))).1 ∧ (doC (newC (liesV n)) (subAct (valW y))).1.acts = 1) := by
    show WCr (valW y) true (doC (newC (liesV n)) (subAct (valW y))).1 ∧ (doC (newC (liesV n)) (subAct (valW y))).1.acts = 1
    rw [do_subW hv]
    exact ⟨submit_WCr hv hl, rfl⟩
  have hdo0 := fun W g q nt (hW : CwAt W g 93 (newC (liesV n)) q nt) => do_any (newC_good hl) hW (subAct (valW y))
  have HDo0 : Hid _ := hdo0
  clear hdo0
  obtain ⟨sa, sc, hsv⟩ := hs.len
  subst hsv
  have HS : Hid (∀ W, Below w.heap.size w W → Ints W (.slice sa l.length sc) l) := fun W hW => hs.keep hW
  clear hs
  go_enter Try.func13, Try.ntmps13
  go_upto_region 7 with (first
    | (go_at_call 33; refine (talive_any _).mono ?_; rintro e w1 ⟨rfl, L1⟩)
    | (go_at_call 26; refine (lies_any n _).mono ?_; rintro e w' ⟨rfl, hw'⟩; obtain rfl := hw'.symm)
    | (go_at_call 34; refine (new_good (liesV n) hl _).mono ?_; rintro e w2 ⟨rfl, H2, L2⟩))
  have hg : w.heap.size ≤ w1.heap.size := L1.size
  have B2 : Below w.heap.size w w2 := bel_trans L1 L2
  have hd := HDo0.out w2 _ _ _ H2
  rw [HV.out] at hd HSub hv
  clear L1 L2 HDo0
  generalize w1.heap.size = g at *
  generalize y.tmod 9 % 9 + 1 = v at *
  obtain ⟨hS1, hS2⟩ := HSub.out
  obtain ⟨code, nn, f, hrep⟩ := do_isRep (newC (liesV n)) (subAct v)
  rw [hrep] at hd
  clear HSub hrep HV hmy hmy1 hmy2 hmy3 hmy4
  generalize (doC (newC (liesV n)) (subAct v)).1 = c3 at hd hS1 hS2
  have HD0 : Hid (Calls Try.prog 21 #[.pointer (some ⟨g, 0, none⟩), .agg (acArr (subAct v))] w2 (Did w2 g (.slice none 0 0) c3 (rcells code nn f))) := hd
  have HSS : Hid (WCr v true c3 ∧ c3.acts = 1) := ⟨hS1, hS2⟩
  clear hd hS1 hS2
  go_upto_region 8 with (first
    | (refine wpList_build_eq rfl 49 _ rfl (acArr (subAct v)) (by simp only [List.map_toArray, List.map_cons, List.map_nil]; exact build_subA v _) ?_; simp only [Act.put, List.setIfInBounds_toArray, List.set_cons_zero, List.set_cons_succ])
    | (go_at_call 21; refine HD0.out.mono ?_; rintro e w3 ⟨rfl, q3, nt3, H3, T3, N3⟩))
  have B3 : Below w.heap.size w w3 := bel_seq B2 (T3.bel hg (fun b hb => by cases hb) B2.size)
  have hn3 : ∀ b, nt3.ownBlock = some b → w.heap.size ≤ b := fun b hb => by
    rcases N3 with h | h
    · rw [h] at hb; cases hb
    · have := h b hb; have := B2.size; omega
  have HC3 : Hid (WCr v true c3 ∧ c3.acts ≤ 1 + 0) := ⟨HSS.out.1, by have := HSS.out.2; omega⟩
  clear H2 B2 T3 N3 HSS HD0
  go_wp2
  go_loopw [9] (fun j V => ∃ (i : Nat) (c : Cw) (q : Nat → Value) (nt : Value), i ≤ l.length ∧ i ≤ 100 ∧ j = .int .i64 (i : Int) ∧ CwAt V g 93 c q nt ∧ Hid (WCr v true c ∧ c.acts ≤ 1 + i) ∧ (∀ b, nt.ownBlock = some b → w.heap.size ≤ b) ∧ Below w.heap.size w V) (fun j _ => 100 - (intOf j).toNat)
  case atStart => exact ⟨0, c3, q3, nt3, by omega, by omega, rfl, H3, HC3, hn3, B3⟩
  case round =>
    clear H3 HC3 hn3 B3
    obtain ⟨i, c, q, nt, hi1, hi2, rfl, H4, HC, hn4, B4⟩ := hrel
    by_cases hlt : i < l.length ∧ i < 100
    · obtain ⟨hli, h100⟩ := hlt
      have hliI : (i : Int) < (l.length : Int) := by omega
      have h100I : (i : Int) < 100 := by omega
      obtain ⟨C4, hacts⟩ := HC.out
      have hroom := C4.room
      have hpos : 0 < c.net.length := List.length_pos_of_mem (C4.s1 rfl 1 (by omega) (by omega))
      have hnt := net_any H4 (by omega)
      obtain ⟨a, cap, hsv, hcell⟩ := (HS.out wr B4).lies hli
      injection hsv with hs1 hs2 hs3
      subst hs1 hs3
      have HB4 : Hid (∀ W, Below w.heap.size w W → W.cell? (a.add i) = some (.int .i64 (l.getD i 0))) := fun W hW => by
        obtain ⟨a', cap', hsv', hcell'⟩ := (HS.out W hW).lies hli
        injection hsv' with hs1 _ _
        injection hs1 with hs1
        rw [hs1]; exact hcell'
      clear hcell
      generalize l.getD i 0 = o at HB4
      have hmod := mod_bd o (m := (c.net.length : Int)) (by omega)
      have hm1 := hmod.1.1
      have hm2 := hmod.1.2
      have hm3 := hmod.2.1
      have hm4 := hmod.2.2
      have hposI : (c.net.length : Int) > 0 := by omega
      have hne : ¬ ((c.net.length : Int) = 0) := by omega
      have hroomI : (c.net.length : Int) ≤ 27 := by omega
      obtain ⟨k, hk⟩ : ∃ k : Nat, (o.tmod (c.net.length : Int) + (c.net.length : Int)).tmod (c.net.length : Int) = (k : Int) := ⟨((o.tmod (c.net.length : Int) + (c.net.length : Int)).tmod (c.net.length : Int)).toNat, by omega⟩
      have hkl : k < c.net.length := by omega
      obtain ⟨z1, z2, _, _, _⟩ := deliver_WCr hv C4 (by omega) hkl
      have HZ : Hid (WCr v true (doC c (delAct (k : Int))).1 ∧ (doC c (delAct (k : Int))).1.acts ≤ 1 + (i + 1)) := ⟨z1, by omega⟩
      have hd := fun W (hW : CwAt W g 93 c q nt) => do_any C4.good hW (delAct (k : Int))
      obtain ⟨code, nn, f, hrep⟩ := do_isRep c (delAct (k : Int))
      rw [hrep] at hd
      have HD : Hid _ := hd
      rw [hk] at hm3 hm4
      clear hd hrep z1 z2 C4 HC hacts hmod
      generalize (doC c (delAct (k : Int))).1 = c5 at HD HZ
      generalize c.net.length = N at *
      go_wp2_with (first
        | (refine wpList_build_eq rfl 49 _ rfl (acArr (delAct (k : Int))) (by simp only [List.map_toArray, List.map_cons, List.map_nil]; exact build_delAct (k : Int) _) ?_; simp only [Act.put, List.setIfInBounds_toArray, List.set_cons_zero, List.set_cons_succ])
        | (go_at_call 24; refine hnt.mono ?_; clear hnt; rintro e w5 ⟨v5, rfl, O5, L5⟩; obtain ⟨va, vc, hvv⟩ := own_shape O5; subst hvv; have hcell := HB4.out w5 (bel_trans B4 L5))
        | (go_at_call 21; refine (HD.out w5 (H4.keep L5)).mono ?_; clear HD; rintro e w6 ⟨rfl, q6, nt6, H6, T6, N6⟩))
      go_roundw
      case rel =>
        refine ⟨i + 1, c5, q6, nt6, by omega, by omega, by go_num, H6, HZ, fun b hb => ?_, bel_seq (bel_trans B4 L5) (T6.bel hg hn4 (by have := (bel_trans B4 L5).size; omega))⟩
        rcases N6 with h | h
        · exact hn4 b (by rw [← h]; exact hb)
        · have := h b hb; have := (bel_trans B4 L5).size; omega
      case measure => simp [intOf]; omega
    · have HC' : Hid (WCr v true c ∧ c.acts ≤ 101) := ⟨HC.out.1, by have := HC.out.2; omega⟩
      clear HC
      by_cases hli : (i : Int) < (l.length : Int)
      · have h100 : ¬ (i : Int) < 100 := by omega
        clear hlt
        go_wp2
        go_loopw [11] (fun j V => ∃ (k : Nat) (c : Cw) (q : Nat → Value) (nt : Value), k ≤ c.net.length ∧ j = .int .i64 (k : Int) ∧ CwAt V g 93 c q nt ∧ Hid (WCr v true c ∧ c.acts ≤ 101 + k ∧ HeardTo c k) ∧ (∀ b, nt.ownBlock = some b → w.heap.size ≤ b) ∧ Below w.heap.size w V) (fun j _ => 200 - (intOf j).toNat)
        case atStart => exact ⟨0, c, q, nt, by omega, rfl, H4, ⟨HC'.out.1, HC'.out.2, fun j x hj => by omega⟩, hn4, B4⟩
        case round =>
          clear H4 HC' hn4 B4 HS
          obtain ⟨k, c, q, nt, hk, rfl, H5, HC5, hn5, B5⟩ := hrel
          obtain ⟨C5, hacts, hheard⟩ := HC5.out
          have hroom := C5.room
          have hnt := net_any H5 (by omega)
          by_cases hkl : k < c.net.length
          · have hkI : (k : Int) < (c.net.length : Int) := by omega
            have hk2 : (k : Int) < 200 := by omega
            obtain ⟨z1, z2, _, z4, z5⟩ := deliver_WCr hv C5 (by omega) hkl
            have HZ : Hid (WCr v true (doC c (delAct (k : Int))).1 ∧ (doC c (delAct (k : Int))).1.acts ≤ 101 + (k + 1) ∧ HeardTo (doC c (delAct (k : Int))).1 (k + 1)) := ⟨z1, by omega, z4 hheard⟩
            have HZ5 : Hid (k < (doC c (delAct (k : Int))).1.net.length) := z5
            have hd := fun W (hW : CwAt W g 93 c q nt) => do_any C5.good hW (delAct (k : Int))
            obtain ⟨code, nn, f, hrep⟩ := do_isRep c (delAct (k : Int))
            rw [hrep] at hd
            have HD : Hid _ := hd
            clear hd hrep z1 z2 z4 z5 C5 HC5 hacts hheard
            generalize (doC c (delAct (k : Int))).1 = c6 at HD HZ HZ5
            generalize c.net.length = N at *
            go_wp2_with (first
              | (refine wpList_build_eq rfl 49 _ rfl (acArr (delAct (k : Int))) (by simp only [List.map_toArray, List.map_cons, List.map_nil]; exact build_delAct (k : Int) _) ?_; simp only [Act.put, List.setIfInBounds_toArray, List.set_cons_zero, List.set_cons_succ])
              | (go_at_call 24; refine hnt.mono ?_; clear hnt; rintro e w5 ⟨v5, rfl, O5, L5⟩; obtain ⟨va, vc, hvv⟩ := own_shape O5; subst hvv)
              | (go_at_call 21; refine (HD.out w5 (H5.keep L5)).mono ?_; clear HD; rintro e w6 ⟨rfl, q6, nt6, H6, T6, N6⟩))
            go_roundw
            case rel =>
              refine ⟨k + 1, c6, q6, nt6, HZ5.out, by go_num, H6, HZ, fun b hb => ?_, bel_seq (bel_trans B5 L5) (T6.bel hg hn5 (by have := (bel_trans B5 L5).size; omega))⟩
              rcases N6 with h | h
              · exact hn5 b (by rw [← h]; exact hb)
              · have := h b hb; have := (bel_trans B5 L5).size; omega
            case measure => simp [intOf]; omega
          · have hkI : ¬ (k : Int) < (c.net.length : Int) := by omega
            have HAll : Hid (∀ i, i < 4 → (c.nd i).height = 1 ∧ (c.nd i).settled 0 = v) := all_settled hv C5 (fun x hx => by
              obtain ⟨j, hj⟩ := List.getElem?_of_mem hx
              have hjl : j < c.net.length := by
                by_cases hlt : j < c.net.length
                · exact hlt
                · rw [List.getElem?_eq_none (by omega)] at hj; cases hj
              exact hheard j x (by omega) hj)
            obtain ⟨f, hf0, hrd⟩ := do_readA hv (c := c) (by omega) (fun i hi => (HAll.out i hi).2)
            have hd := fun W (hW : CwAt W g 93 c q nt) => do_any C5.good hW readA
            rw [hrd] at hd
            have HD : Hid _ := hd
            have HF : Hid (f 0 = v) := hf0
            have hql : ∀ i, i < 4 → (c.nd i).queue.length ≤ 6 := fun i hi => (C5.good.nd i hi).good.qlen
            have hz := run_zeroN
            clear hd hrd hf0 C5 HC5 hacts hheard
            go_upto_region 18 with (first
              | (go_at_call 24; refine hnt.mono ?_; clear hnt; rintro e w5 ⟨v5, rfl, O5, L5⟩; obtain ⟨va, vc, hvv⟩ := own_shape O5; subst hvv))
            have H6 := H5.keep L5
            have B6 := bel_trans B5 L5
            clear H5 B5 L5 O5
            go_wp2
            go_loopw [80] (fun j V => ∃ i : Nat, i ≤ 4 ∧ j = .int .i64 (i : Int) ∧ CwAt V g 93 c q nt ∧ Below w.heap.size w V) (fun j _ => 4 - (intOf j).toNat)
            case atStart => exact ⟨0, by omega, rfl, H6, B6⟩
            case round =>
              clear H6 B6
              obtain ⟨i, hi, rfl, H7, B7⟩ := hrel
              by_cases hi4 : i < 4
              · have hiI : (i : Int) < 4 := by omega
                have hn := node_any H7 i hi4 (hql i hi4)
                have HAi := HAll.out i hi4
                have HA1 : Hid ((c.nd i).height = 1) := HAi.1
                have HA2 : Hid ((c.nd i).settled 0 = v) := HAi.2
                clear HAi
                rename World => w7
                go_upto_region 22 with (first
                  | (go_at_call 23; refine hn.mono ?_; clear hn; rintro e w8 ⟨q8, rfl, hown8, L8⟩; have hi5 := infoN ((c.nd i).ni q8); have Z8 : Blk (w8.alloc (.cells zN.cells 34)) w8.heap.size zN.cells 34 := Blk.new w8 _ _; have La : Below w8.heap.size w8 (w8.alloc (.cells zN.cells 34)) := (by go_grown))
                  | (refine wpList_store_blk rfl 34 _ _ rfl w8.heap.size zN.cells ((c.nd i).ni q8).cells 34 rfl rfl Z8 (by rw [ncells_size, ncells_size]) hi5 (one_cellN _ (own_one hown8)) ?_; rintro w9 N9 K9; have L9 := K9.bel _ _ (Nat.le_refl _) La; clear Z8 La K9))
                have H9 := (H7.keep L8).keep L9
                have B9 := bel_trans (bel_trans B7 L8) L9
                have e0 : w9.cell? ⟨w8.heap.size, 0, none⟩ = some (.int .i64 1) := by
                  rw [N9.cell 0, ncells_num _ 0 (by omega)]
                  show some (Value.int .i64 ((c.nd i).height : Int)) = _
                  rw [HA1.out]; rfl
                have e1 : w9.cell? ⟨w8.heap.size, 277, none⟩ = some (.int .i64 v) := by
                  rw [N9.cell 277, show ((c.nd i).ni q8).cells[277]? = some (.int .i64 (((c.nd i).ni q8).settled 0)) from ncells_settled _ 0 (by omega)]
                  show some (Value.int .i64 ((c.nd i).settled 0)) = _
                  rw [HA2.out]
                clear H7 B7 L8 L9 N9 hown8
                go_wp2
                go_roundw
                case rel => exact ⟨i + 1, by omega, by go_num, H9, B9⟩
                case measure => simp [intOf]; omega
              · have hiI : ¬ (i : Int) < 4 := by omega
                have hfs := field_settledR f
                have hix : ∀ V, Sem.run Try.prog (Instr.index 26 (.agg (four f)) (.int .i64 0)) V = .ok (.int .i64 v) V := fun V => by have h := index_four f 0 (by omega) V; rw [HF.out] at h; exact h
                go_wp2_with (first
                  | (refine wpList_build_eq rfl 49 _ rfl (acArr (readA)) (by simp only [List.map_toArray, List.map_cons, List.map_nil]; exact build_readA _) ?_; simp only [Act.put, List.setIfInBounds_toArray, List.set_cons_zero, List.set_cons_succ])
                  | (go_at_call 21; refine (HD.out _ H7).mono ?_; clear HD; rintro e w9 ⟨rfl, q9, nt9, H9, T9, N9⟩))
                go_ret
                exact ⟨ret_bool (by simp), bel_seq B7 (T9.bel hg hn5 (by have := B7.size; omega))⟩
      · clear hlt
        go_wp2
        go_loopw [11] (fun j V => ∃ (k : Nat) (c : Cw) (q : Nat → Value) (nt : Value), k ≤ c.net.length ∧ j = .int .i64 (k : Int) ∧ CwAt V g 93 c q nt ∧ Hid (WCr v true c ∧ c.acts ≤ 101 + k ∧ HeardTo c k) ∧ (∀ b, nt.ownBlock = some b → w.heap.size ≤ b) ∧ Below w.heap.size w V) (fun j _ => 200 - (intOf j).toNat)
        case atStart => exact ⟨0, c, q, nt, by omega, rfl, H4, ⟨HC'.out.1, HC'.out.2, fun j x hj => by omega⟩, hn4, B4⟩
        case round =>
          clear H4 HC' hn4 B4 HS
          obtain ⟨k, c, q, nt, hk, rfl, H5, HC5, hn5, B5⟩ := hrel
          obtain ⟨C5, hacts, hheard⟩ := HC5.out
          have hroom := C5.room
          have hnt := net_any H5 (by omega)
          by_cases hkl : k < c.net.length
          · have hkI : (k : Int) < (c.net.length : Int) := by omega
            have hk2 : (k : Int) < 200 := by omega
            obtain ⟨z1, z2, _, z4, z5⟩ := deliver_WCr hv C5 (by omega) hkl
            have HZ : Hid (WCr v true (doC c (delAct (k : Int))).1 ∧ (doC c (delAct (k : Int))).1.acts ≤ 101 + (k + 1) ∧ HeardTo (doC c (delAct (k : Int))).1 (k + 1)) := ⟨z1, by omega, z4 hheard⟩
            have HZ5 : Hid (k < (doC c (delAct (k : Int))).1.net.length) := z5
            have hd := fun W (hW : CwAt W g 93 c q nt) => do_any C5.good hW (delAct (k : Int))
            obtain ⟨code, nn, f, hrep⟩ := do_isRep c (delAct (k : Int))
            rw [hrep] at hd
            have HD : Hid _ := hd
            clear hd hrep z1 z2 z4 z5 C5 HC5 hacts hheard
            generalize (doC c (delAct (k : Int))).1 = c6 at HD HZ HZ5
            generalize c.net.length = N at *
            go_wp2_with (first
              | (refine wpList_build_eq rfl 49 _ rfl (acArr (delAct (k : Int))) (by simp only [List.map_toArray, List.map_cons, List.map_nil]; exact build_delAct (k : Int) _) ?_; simp only [Act.put, List.setIfInBounds_toArray, List.set_cons_zero, List.set_cons_succ])
              | (go_at_call 24; refine hnt.mono ?_; clear hnt; rintro e w5 ⟨v5, rfl, O5, L5⟩; obtain ⟨va, vc, hvv⟩ := own_shape O5; subst hvv)
              | (go_at_call 21; refine (HD.out w5 (H5.keep L5)).mono ?_; clear HD; rintro e w6 ⟨rfl, q6, nt6, H6, T6, N6⟩))
            go_roundw
            case rel =>
              refine ⟨k + 1, c6, q6, nt6, HZ5.out, by go_num, H6, HZ, fun b hb => ?_, bel_seq (bel_trans B5 L5) (T6.bel hg hn5 (by have := (bel_trans B5 L5).size; omega))⟩
              rcases N6 with h | h
              · exact hn5 b (by rw [← h]; exact hb)
              · have := h b hb; have := (bel_trans B5 L5).size; omega
            case measure => simp [intOf]; omega
          · have hkI : ¬ (k : Int) < (c.net.length : Int) := by omega
            have HAll : Hid (∀ i, i < 4 → (c.nd i).height = 1 ∧ (c.nd i).settled 0 = v) := all_settled hv C5 (fun x hx => by
              obtain ⟨j, hj⟩ := List.getElem?_of_mem hx
              have hjl : j < c.net.length := by
                by_cases hlt : j < c.net.length
                · exact hlt
                · rw [List.getElem?_eq_none (by omega)] at hj; cases hj
              exact hheard j x (by omega) hj)
            obtain ⟨f, hf0, hrd⟩ := do_readA hv (c := c) (by omega) (fun i hi => (HAll.out i hi).2)
            have hd := fun W (hW : CwAt W g 93 c q nt) => do_any C5.good hW readA
            rw [hrd] at hd
            have HD : Hid _ := hd
            have HF : Hid (f 0 = v) := hf0
            have hql : ∀ i, i < 4 → (c.nd i).queue.length ≤ 6 := fun i hi => (C5.good.nd i hi).good.qlen
            have hz := run_zeroN
            clear hd hrd hf0 C5 HC5 hacts hheard
            go_upto_region 18 with (first
              | (go_at_call 24; refine hnt.mono ?_; clear hnt; rintro e w5 ⟨v5, rfl, O5, L5⟩; obtain ⟨va, vc, hvv⟩ := own_shape O5; subst hvv))
            have H6 := H5.keep L5
            have B6 := bel_trans B5 L5
            clear H5 B5 L5 O5
            go_wp2
            go_loopw [80] (fun j V => ∃ i : Nat, i ≤ 4 ∧ j = .int .i64 (i : Int) ∧ CwAt V g 93 c q nt ∧ Below w.heap.size w V) (fun j _ => 4 - (intOf j).toNat)
            case atStart => exact ⟨0, by omega, rfl, H6, B6⟩
            case round =>
              clear H6 B6
              obtain ⟨i, hi, rfl, H7, B7⟩ := hrel
              by_cases hi4 : i < 4
              · have hiI : (i : Int) < 4 := by omega
                have hn := node_any H7 i hi4 (hql i hi4)
                have HAi := HAll.out i hi4
                have HA1 : Hid ((c.nd i).height = 1) := HAi.1
                have HA2 : Hid ((c.nd i).settled 0 = v) := HAi.2
                clear HAi
                rename World => w7
                go_upto_region 22 with (first
                  | (go_at_call 23; refine hn.mono ?_; clear hn; rintro e w8 ⟨q8, rfl, hown8, L8⟩; have hi5 := infoN ((c.nd i).ni q8); have Z8 : Blk (w8.alloc (.cells zN.cells 34)) w8.heap.size zN.cells 34 := Blk.new w8 _ _; have La : Below w8.heap.size w8 (w8.alloc (.cells zN.cells 34)) := (by go_grown))
                  | (refine wpList_store_blk rfl 34 _ _ rfl w8.heap.size zN.cells ((c.nd i).ni q8).cells 34 rfl rfl Z8 (by rw [ncells_size, ncells_size]) hi5 (one_cellN _ (own_one hown8)) ?_; rintro w9 N9 K9; have L9 := K9.bel _ _ (Nat.le_refl _) La; clear Z8 La K9))
                have H9 := (H7.keep L8).keep L9
                have B9 := bel_trans (bel_trans B7 L8) L9
                have e0 : w9.cell? ⟨w8.heap.size, 0, none⟩ = some (.int .i64 1) := by
                  rw [N9.cell 0, ncells_num _ 0 (by omega)]
                  show some (Value.int .i64 ((c.nd i).height : Int)) = _
                  rw [HA1.out]; rfl
                have e1 : w9.cell? ⟨w8.heap.size, 277, none⟩ = some (.int .i64 v) := by
                  rw [N9.cell 277, show ((c.nd i).ni q8).cells[277]? = some (.int .i64 (((c.nd i).ni q8).settled 0)) from ncells_settled _ 0 (by omega)]
                  show some (Value.int .i64 ((c.nd i).settled 0)) = _
                  rw [HA2.out]
                clear H7 B7 L8 L9 N9 hown8
                go_wp2
                go_roundw
                case rel => exact ⟨i + 1, by omega, by go_num, H9, B9⟩
                case measure => simp [intOf]; omega
              · have hiI : ¬ (i : Int) < 4 := by omega
                have hfs := field_settledR f
                have hix : ∀ V, Sem.run Try.prog (Instr.index 26 (.agg (four f)) (.int .i64 0)) V = .ok (.int .i64 v) V := fun V => by have h := index_four f 0 (by omega) V; rw [HF.out] at h; exact h
                go_wp2_with (first
                  | (refine wpList_build_eq rfl 49 _ rfl (acArr (readA)) (by simp only [List.map_toArray, List.map_cons, List.map_nil]; exact build_readA _) ?_; simp only [Act.put, List.setIfInBounds_toArray, List.set_cons_zero, List.set_cons_succ])
                  | (go_at_call 21; refine (HD.out _ H7).mono ?_; clear HD; rintro e w9 ⟨rfl, q9, nt9, H9, T9, N9⟩))
                go_ret
                exact ⟨ret_bool (by simp), bel_seq B7 (T9.bel hg hn5 (by have := B7.size; omega))⟩
end Go.Proofs.Ytmmgaonlmpajbab
