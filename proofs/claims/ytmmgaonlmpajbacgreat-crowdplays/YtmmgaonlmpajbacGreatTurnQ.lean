/-
  What the library does with a queue: slices.IndexFunc, ContainsFunc, DeleteFunc at the program's own functions, as far as the landed package node asks it.
  The landed package node at work: rise.
  The landed package node at work: settle.
-/
import Derived.Test.YtmmgaonlmpajbacGreatTurnA
import Derived.Lib.SliceRun
import Derived.Deep.DeepCutAuto
import Derived.Test.YtmmgaonlmpajbacGreatTurnB
namespace Go.Proofs.YtmmgaonlmpajbacGreat
open Go.RowKit

theorem rise1_any (v x : Int) (b : Nat) (W : World) (hc : W.cell? ⟨b, 0, none⟩ = some (.int .i64 v)) :
    Calls Tryz.prog 97 #[.int .i64 x, .pointer (some ⟨b, 0, none⟩)] W fun e w' => e = .returned (.bool (x == v)) ∧ w' = W := by
  go_enter Tryz.func97, Tryz.ntmps97
  go_wp2
  go_ret
  exact ⟨rfl, rfl⟩
theorem gq1_any (x : Int) (W : World) :
    Calls Tryz.prog 94 #[.int .i64 x] W fun e w' => e = .returned (.bool (!win x 1 9)) ∧ w' = W := by
  go_enter Tryz.func94, Tryz.ntmps94
  go_wp2_with (first | (go_at_call 53; refine (bvalue_any _ _).mono ?_; rintro e w' ⟨rfl, rfl⟩))
  go_ret
  exact ⟨rfl, rfl⟩

/-- Where the first one is of which p holds; -1: nowhere. -/
def IdxIs (p : Int → Bool) (l : List Int) (i : Int) : Prop :=
  (i = -1 ∧ ∀ j, j < l.length → p (l.getD j 0) = false) ∨ ∃ k : Nat, i = (k : Int) ∧ k < l.length ∧ p (l.getD k 0) = true ∧ ∀ j, j < k → p (l.getD j 0) = false

set_option maxHeartbeats 1000000 in
theorem idxR_any (v : Int) (b : Nat) (l : List Int) (qa : Option Addr) (qc : Nat) (w : World) (hq : Ints w (.slice qa l.length qc) l) (hl : l.length ≤ 1000000) (hc : w.cell? ⟨b, 0, none⟩ = some (.int .i64 v)) :
    Calls Tryz.prog 102 #[.slice qa l.length qc, .func (.func 97) #[] #[.pointer (some ⟨b, 0, none⟩)]] w fun e w' => ∃ i, e = .returned (.int .i64 i) ∧ IdxIs (fun x => x == v) l i ∧ w' = w := by
  go_enter Tryz.func102, Tryz.ntmps102
  go_wp2
  go_loopw [8] (fun i W => W = w ∧ ∃ k : Nat, k ≤ l.length ∧ i = .int .i64 (k : Int) ∧ Hid (∀ j, j < k → (l.getD j 0 == v) = false)) (fun i _ => l.length - (intOf i).toNat)
  case atStart => exact ⟨rfl, 0, by omega, rfl, fun j hj => by omega⟩
  case round =>
    rename_i W
    obtain ⟨hW, k, hk, rfl, hno⟩ := hrel
    subst hW
    by_cases hlt : k < l.length
    · obtain ⟨ad, cap, hv, hcell⟩ := hq.lies hlt
      injection hv with hv1 hv2 hv3
      subst hv1 hv3
      generalize hu : l.getD k 0 = u at hcell
      have HU : Hid (l.getD k 0 = u) := hu
      clear hu
      cases hp : (u == v)
      · go_wp2_with (first | (go_at_call 97; refine (rise1_any v u b _ hc).mono ?_; rintro e w' ⟨rfl, hw'⟩; obtain rfl := hw'.symm))
        go_roundw
        case measure => simp [intOf]; omega
        case rel =>
          refine ⟨by simp, k + 1, by omega, by go_num, ?_⟩
          show ∀ j, j < k + 1 → (l.getD j 0 == v) = false
          intro j hj
          by_cases hjk : j = k
          · rw [hjk, HU.out]; exact hp
          · exact hno.out j (by omega)
      · go_wp2_with (first | (go_at_call 97; refine (rise1_any v u b _ hc).mono ?_; rintro e w' ⟨rfl, hw'⟩; obtain rfl := hw'.symm))
        go_ret
        exact ⟨k, rfl, Or.inr ⟨k, rfl, hlt, by rw [HU.out]; exact hp, hno.out⟩, rfl⟩
    · have hkl : Hid (k = l.length) := show k = l.length by omega
      go_wp2
      go_ret
      exact ⟨-1, rfl, Or.inl ⟨rfl, fun j hj => hno.out j (by rw [hkl.out]; exact hj)⟩, rfl⟩
set_option maxHeartbeats 1000000 in
theorem idxG_any (l : List Int) (qa : Option Addr) (qc : Nat) (w : World) (hq : Ints w (.slice qa l.length qc) l) (hl : l.length ≤ 1000000) :
    Calls Tryz.prog 102 #[.slice qa l.length qc, .func (.func 94) #[] #[]] w fun e w' => ∃ i, e = .returned (.int .i64 i) ∧ IdxIs (fun x => !win x 1 9) l i ∧ w' = w := by
  go_enter Tryz.func102, Tryz.ntmps102
  go_wp2
  go_loopw [8] (fun i W => W = w ∧ ∃ k : Nat, k ≤ l.length ∧ i = .int .i64 (k : Int) ∧ Hid (∀ j, j < k → (!win (l.getD j 0) 1 9) = false)) (fun i _ => l.length - (intOf i).toNat)
  case atStart => exact ⟨rfl, 0, by omega, rfl, fun j hj => by omega⟩
  case round =>
    rename_i W
    obtain ⟨hW, k, hk, rfl, hno⟩ := hrel
    subst hW
    by_cases hlt : k < l.length
    · obtain ⟨ad, cap, hv, hcell⟩ := hq.lies hlt
      injection hv with hv1 hv2 hv3
      subst hv1 hv3
      generalize hu : l.getD k 0 = u at hcell
      have HU : Hid (l.getD k 0 = u) := hu
      clear hu
      cases hp : (!win u 1 9)
      · go_wp2_with (first | (go_at_call 94; refine (gq1_any u _).mono ?_; rw [hp]; rintro e w' ⟨rfl, hw'⟩; obtain rfl := hw'.symm))
        go_roundw
        case measure => simp [intOf]; omega
        case rel =>
          refine ⟨by simp, k + 1, by omega, by go_num, ?_⟩
          show ∀ j, j < k + 1 → (!win (l.getD j 0) 1 9) = false
          intro j hj
          by_cases hjk : j = k
          · rw [hjk, HU.out]; exact hp
          · exact hno.out j (by omega)
      · go_wp2_with (first | (go_at_call 94; refine (gq1_any u _).mono ?_; rw [hp]; rintro e w' ⟨rfl, hw'⟩; obtain rfl := hw'.symm))
        go_ret
        exact ⟨k, rfl, Or.inr ⟨k, rfl, hlt, by rw [HU.out]; exact hp, hno.out⟩, rfl⟩
    · have hkl : Hid (k = l.length) := show k = l.length by omega
      go_wp2
      go_ret
      exact ⟨-1, rfl, Or.inl ⟨rfl, fun j hj => hno.out j (by rw [hkl.out]; exact hj)⟩, rfl⟩

theorem okQueue_iff (l : List Int) : ∀ n, okQueue l n = true ↔ ∀ j, j < n → win (l.getD j 0) 1 9 = true
  | 0 => by simp [okQueue]
  | n + 1 => by
    simp only [okQueue, Bool.and_eq_true, okQueue_iff l n]
    constructor
    · rintro ⟨h1, h2⟩ j hj
      by_cases hjn : j = n
      · subst hjn; exact h2
      · exact h1 j (by omega)
    · intro h
      exact ⟨fun j hj => h j (by omega), h n (by omega)⟩

set_option maxHeartbeats 1000000 in
theorem contains_any (l : List Int) (qa : Option Addr) (qc : Nat) (w : World) (hq : Ints w (.slice qa l.length qc) l) (hl : l.length ≤ 1000000) :
    Calls Tryz.prog 93 #[.slice qa l.length qc, .func (.func 94) #[] #[]] w fun e w' => e = .returned (.bool (!okQueue l l.length)) ∧ w' = w := by
  go_enter Tryz.func93, Tryz.ntmps93
  go_wp2_with (first | (go_at_call 102; refine (idxG_any l qa qc _ hq hl).mono ?_; rintro e w' ⟨i, rfl, HI, rfl⟩))
  all_goals
    go_ret
    refine ⟨ret_bool ?_, rfl⟩
    rcases HI with ⟨h1, h2⟩ | ⟨k, h1, h2, h3, h4⟩
    · have : okQueue l l.length = true := (okQueue_iff l _).2 (fun j hj => by simpa using h2 j hj)
      rw [this]; simp; omega
    · have : okQueue l l.length = false := by
        cases hq : okQueue l l.length
        · rfl
        · have := (okQueue_iff l _).1 hq k h2
          have h3' : (!win (l.getD k 0) 1 9) = true := h3
          rw [this] at h3'
          cases h3'
      rw [this]; simp; omega

theorem take_set : ∀ (L : List Value) (i : Nat) (u : Value), i < L.length → (L.set i u).take (i + 1) = L.take i ++ [u]
  | [], _, _, h => by simp at h
  | x :: L, 0, u, _ => by simp
  | x :: L, i + 1, u, h => by simp [take_set L i u (by simpa using h)]
/-- What is kept of the first j. -/
def keptTo (v : Int) (l : List Int) (j : Nat) : List Int := (l.take j).filter (fun x => x != v)
theorem keptTo_succ {v : Int} {l : List Int} {j : Nat} (hj : j < l.length) : keptTo v l (j + 1) = if (l.getD j 0 == v) = true then keptTo v l j else keptTo v l j ++ [l.getD j 0] := by
  unfold keptTo
  rw [List.take_add_one, List.getElem?_eq_getElem hj]
  have : l.getD j 0 = l[j] := by simp [List.getD_eq_getElem?_getD, List.getElem?_eq_getElem hj]
  rw [this]
  simp only [Option.toList_some, List.filter_append, List.filter_cons, List.filter_nil, bne]
  split <;> simp_all
theorem keptTo_all {v : Int} {l : List Int} {j : Nat} (h : ∀ t, t < j → (l.getD t 0 == v) = false) (hj : j ≤ l.length) : keptTo v l j = l.take j := by
  induction j with
  | zero => simp [keptTo]
  | succ j ih =>
    rw [keptTo_succ (by omega), if_neg (by rw [h j (by omega)]; simp), ih (fun t ht => h t (by omega)) (by omega), List.take_add_one, List.getElem?_eq_getElem (by omega)]
    simp [List.getD_eq_getElem?_getD, List.getElem?_eq_getElem (show j < l.length by omega)]
theorem keptTo_len (v : Int) (l : List Int) (j : Nat) : (keptTo v l j).length ≤ j := by
  unfold keptTo
  exact Nat.le_trans (List.length_filter_le _ _) (by simp; omega)
theorem keptTo_end (v : Int) (l : List Int) : keptTo v l l.length = l.filter (fun x => x != v) := by unfold keptTo; rw [List.take_length]
theorem take_get {cur : Array Value} {l : List Int} (h : cur.toList.take l.length = l.map (Value.int .i64)) (j : Nat) (hj : j < l.length) : cur[j]? = some (.int .i64 (l.getD j 0)) := by
  have e : (cur.toList.take l.length)[j]? = some (Value.int .i64 (l.getD j 0)) := by
    rw [h, List.getElem?_map, List.getElem?_eq_getElem hj]
    simp [List.getD_eq_getElem?_getD, List.getElem?_eq_getElem hj]
  rw [List.getElem?_take, if_pos hj, Array.getElem?_toList] at e
  exact e

/-- The queue's row, as it is written anew from its head. -/
structure KeptRow (w : World) (g cap : Nat) (v : Int) (l : List Int) (i j : Nat) (W : World) (cur : Array Value) : Prop where
  blk : Blk W g cur 3
  size : cur.size = cap
  len : i = (keptTo v l j).length
  low : cur.toList.take i = (keptTo v l j).map (Value.int .i64)
  high : ∀ t, j ≤ t → t < l.length → cur[t]? = some (.int .i64 (l.getD t 0))
  rest : w.grownBy W (some g)

set_option maxHeartbeats 2000000 in
theorem delete_row (v : Int) (b g cap : Nat) (l : List Int) (cur : Array Value) (w : World) (B : Blk w g cur 3) (hsz : cur.size = cap) (hcap : l.length ≤ cap) (hcur : cur.toList.take l.length = l.map (Value.int .i64)) (hl : l.length ≤ 1000000) (hb : b ≠ g) (hc : w.cell? ⟨b, 0, none⟩ = some (.int .i64 v)) :
    Calls Tryz.prog 96 #[.slice (some ⟨g, 0, none⟩) l.length cap, .func (.func 97) #[] #[.pointer (some ⟨b, 0, none⟩)]] w fun e w' =>
      e = .returned (.slice (some ⟨g, 0, none⟩) (l.filter (fun x => x != v)).length cap) ∧ ∃ cur', Blk w' g cur' 3 ∧ cur'.size = cap ∧ cur'.toList.take (l.filter (fun x => x != v)).length = (l.filter (fun x => x != v)).map (Value.int .i64) ∧ w.grownBy w' (some g) := by
  have hget := take_get hcur
  have hq : Ints w (.slice (some ⟨g, 0, none⟩) l.length cap) l := Or.inr ⟨_, _, rfl, fun i u hu => by
    have hi : i < l.length := by
      by_cases hlt : i < l.length
      · exact hlt
      · rw [List.getElem?_eq_none (by omega)] at hu; cases hu
    rw [Addr.add_mid, Nat.zero_add, B.cell, hget i hi, List.getD_eq_getElem?_getD, hu]; rfl⟩
  have hlb : b < w.heap.size := World.block_lt_of_cell? w _ hc
  have HB : Hid (Blk w g cur 3) := B
  have HG : Hid (∀ j, j < l.length → cur[j]? = some (.int .i64 (l.getD j 0))) := hget
  have HQ : Hid (Ints w (.slice (some ⟨g, 0, none⟩) l.length cap) l) := hq
  have HC : Hid (cur.toList.take l.length = l.map (Value.int .i64)) := hcur
  clear B hget hq hcur
  go_enter Tryz.func96, Tryz.ntmps96
  go_wp2_with fail
  refine (idxR_any v b l _ _ w HQ.out hl hc).mono ?_
  rintro e w' ⟨i0, rfl, HI, hw'⟩
  obtain rfl := hw'.symm
  rcases HI with ⟨rfl, hall⟩ | ⟨k, rfl, hk, ht, hall⟩
  · have hno : Hid (l.filter (fun x => x != v) = l) := by
      have h1 := keptTo_all (v := v) (l := l) (j := l.length) (fun t ht => hall t ht) (Nat.le_refl _)
      rw [keptTo_end, List.take_length] at h1
      exact h1
    clear hall
    go_wp2
    go_ret
    rw [hno.out]
    exact ⟨rfl, cur, HB.out, hsz, HC.out, World.grownBy.refl _ _⟩
  · have hne1 : ((k : Int) == -1) = false := beq_eq_false_iff_ne.2 (by omega)
    have hstart : Hid (KeptRow w g cap v l k (k + 1) w cur) := by
      have h1 := keptTo_all (v := v) (l := l) (j := k) (fun t ht => hall t ht) (by omega)
      have h2 : keptTo v l (k + 1) = l.take k := by rw [keptTo_succ hk, if_pos ht, h1]
      refine ⟨HB.out, hsz, by rw [h2]; simp; omega, ?_, fun t _ h => HG.out t h, ⟨rfl, rfl, rfl, Nat.le_refl _, fun _ _ _ => rfl⟩⟩
      rw [h2, List.map_take, ← HC.out, List.take_take, Nat.min_eq_left (by omega)]
    clear hall ht
    go_wp2
    go_loopw [5, 6, 7] (fun s5 s6 _ W => ∃ (i j : Nat) (cur' : Array Value), s5 = .int .i64 (i : Int) ∧ s6 = .int .i64 (j : Int) ∧ i < j ∧ j ≤ l.length ∧ Hid (KeptRow w g cap v l i j W cur')) (fun _ s6 _ _ => l.length - (intOf s6).toNat)
    case atStart => exact ⟨k, k + 1, cur, rfl, by go_num, by omega, by omega, hstart⟩
    case round =>
      clear hstart HB HC HG HQ
      obtain ⟨i, j, cur', rfl, rfl, hij, hjl, KH⟩ := hrel
      have KR := KH.out
      have hbW : wr.cell? ⟨b, 0, none⟩ = some (.int .i64 v) := by rw [World.cell?_of_block (KR.rest.block b hlb (fun e => hb (Option.some.inj e)))]; exact hc
      by_cases hlt : j < l.length
      · have cj := KR.blk.cell j
        rw [KR.high j (Nat.le_refl _) hlt] at cj
        obtain ⟨old, ho⟩ : ∃ old, cur'[i]? = some old := ⟨_, Array.getElem?_eq_getElem (by rw [KR.size]; omega)⟩
        have ci := KR.blk.cell i
        rw [ho] at ci
        have fi := KR.blk.free i
        have hks := keptTo_succ (v := v) hlt
        generalize hu : l.getD j 0 = u at cj hks
        clear hu ho KR
        have HK : Hid _ := hks
        clear hks
        cases hp : (u == v)
        · go_wp2_with (first | (go_at_call 97; refine (rise1_any v u b _ hbW).mono ?_; rintro e w' ⟨rfl, hw'⟩; obtain rfl := hw'.symm))
          go_roundw
          case measure => simp [intOf]; omega
          case rel =>
            have KR := KH.out
            have hk2 := HK.out
            rw [if_neg (by rw [hp]; simp)] at hk2
            refine ⟨i + 1, j + 1, cur'.setIfInBounds i (.int .i64 u), by go_num, by go_num, by omega, by omega, show KeptRow _ _ _ _ _ _ _ _ _ from ⟨KR.blk.setCell i _, by rw [Array.size_setIfInBounds]; exact KR.size, ?_, ?_, fun t h1 h2 => ?_, grown_trans KR.rest (grown_setCell _ _ _ _)⟩⟩
            · rw [hk2, List.length_append, ← KR.len]; rfl
            · rw [hk2, Array.toList_setIfInBounds, take_set _ _ _ (by rw [Array.length_toList, KR.size]; omega), KR.low, List.map_append]; rfl
            · rw [Array.getElem?_setIfInBounds_ne (by omega)]; exact KR.high t (by omega) h2
        · go_wp2_with (first | (go_at_call 97; refine (rise1_any v u b _ hbW).mono ?_; rintro e w' ⟨rfl, hw'⟩; obtain rfl := hw'.symm))
          go_roundw
          case measure => simp [intOf]; omega
          case rel =>
            have KR := KH.out
            have hk2 := HK.out
            rw [if_pos hp] at hk2
            exact ⟨i, j + 1, cur', rfl, by go_num, by omega, by omega, show KeptRow _ _ _ _ _ _ _ _ _ from ⟨KR.blk, KR.size, by rw [hk2]; exact KR.len, by rw [hk2]; exact KR.low, fun t h1 h2 => KR.high t (by omega) h2, KR.rest⟩⟩
      · obtain rfl : j = l.length := by omega
        have hltz : ¬ (l.length : Int) < (l.length : Int) := by omega
        have hcl : ∀ ty, (Builtin.clear_ #[48] ty #[.slice (some ⟨g, i, none⟩) (l.length - i) (cap - i)]).run Tryz.prog wr = .ok (.tuple #[]) (wr.setCells g i (List.replicate (l.length - i) (.int .i64 0))) :=
          fun ty => Lib.run_clear_slice wr _ _ ty _ Tryz.underlying48 (fun w => by show _ = _; kernel_rfl) rfl rfl g i _ _ (by omega) (fun t ht => by rw [KR.blk.cell, Array.getElem?_eq_getElem (by rw [KR.size]; omega)]; rfl) (fun t ht => KR.blk.free _)
        clear KR
        go_wp2
        go_ret
        have KR := KH.out
        have hen := keptTo_end v l
        obtain ⟨D, h1, h2, h3⟩ := Blk.setMid_ex (List.replicate (l.length - i) (Value.int .i64 0)) i wr cur' KR.blk (by rw [KR.size, List.length_replicate]; omega)
        refine ⟨by rw [← hen, ← KR.len]; rfl, D, h1, by rw [h2]; exact KR.size, ?_, grown_trans KR.rest (grown_setCells _ _ _ _)⟩
        rw [← hen, ← KR.len, ← KR.low]
        apply List.ext_getElem?
        intro t
        rw [List.getElem?_take, List.getElem?_take]
        by_cases htl : t < i
        · rw [if_pos htl, if_pos htl, Array.getElem?_toList, Array.getElem?_toList, h3 t, if_neg (by omega)]
        · rw [if_neg htl, if_neg htl]

set_option maxHeartbeats 1000000 in
theorem delete_nil (v : Int) (b : Nat) (w : World) (hc : w.cell? ⟨b, 0, none⟩ = some (.int .i64 v)) :
    Calls Tryz.prog 96 #[.slice none 0 0, .func (.func 97) #[] #[.pointer (some ⟨b, 0, none⟩)]] w fun e w' => e = .returned (.slice none 0 0) ∧ w' = w := by
  go_enter Tryz.func96, Tryz.ntmps96
  go_wp2_with fail
  refine (idxR_any v b [] none 0 w (Or.inl ⟨rfl, 0, rfl⟩) (by simp) hc).mono ?_
  rintro e w' ⟨i0, rfl, HI, hw'⟩
  obtain rfl := hw'.symm
  rcases HI with ⟨rfl, hall⟩ | ⟨k, rfl, hk, _⟩
  · clear hall
    go_wp2
    go_ret
    exact ⟨rfl, rfl⟩
  · simp at hk

/-- What is struck out of a queue: its row is written anew. -/
theorem delete_own (v : Int) (b base : Nat) (l : List Int) (q : Value) (w : World) (hown : w.ownsRow base 3 1 q l.length (l.map (Value.int .i64))) (hl : l.length ≤ 1000000) (hc : w.cell? ⟨b, 0, none⟩ = some (.int .i64 v)) (hb : ∀ k, q.ownBlock = some k → b ≠ k) :
    Calls Tryz.prog 96 #[q, .func (.func 97) #[] #[.pointer (some ⟨b, 0, none⟩)]] w fun e w' =>
      ∃ qa ql qc, e = .returned (.slice qa ql qc) ∧ w'.ownsRow base 3 1 (.slice qa ql qc) (l.filter (fun x => x != v)).length ((l.filter (fun x => x != v)).map (Value.int .i64)) ∧ w.grownBy w' q.ownBlock := by
  rcases hown.2 with ⟨rfl, h0⟩ | ⟨g, cap, cur, rfl, hbg, hh, hn, hm, hs, ht⟩
  · have : l = [] := List.eq_nil_of_length_eq_zero h0
    subst this
    refine (delete_nil v b w hc).mono ?_
    rintro e w' ⟨rfl, rfl⟩
    exact ⟨none, 0, 0, rfl, hown, ⟨rfl, rfl, rfl, Nat.le_refl _, fun _ _ _ => rfl⟩⟩
  · simp only [Nat.mul_one] at hs ht
    refine (delete_row v b g cap l cur w hh hs hn ht hl (hb g rfl) hc).mono ?_
    rintro e w' ⟨rfl, cur', h1, h2, h3, h4⟩
    have hle := List.length_filter_le (fun x => x != v) l
    exact ⟨_, _, _, rfl, ⟨by simp, Or.inr ⟨g, cap, cur', rfl, hbg, h1, by omega, hm, by rw [h2]; omega, by rw [Nat.mul_one]; exact h3⟩⟩, h4⟩
end Go.Proofs.YtmmgaonlmpajbacGreat
namespace Go.Proofs.YtmmgaonlmpajbacGreat
open Go.RowKit

/-- A value is settled: the height is left behind. -/
def leftN (n : Nd) (v : Int) : Nd := { n with settled := fun g => if g = n.height then v else n.settled g, queue := n.queue.filter (fun x => x != v), height := n.height + 1, bound := 0, boundIn := -1, valid := 0, validIn := -1, seen := fun _ => false }
def settleV (who : Nat) (a : At) (v : Int) : At := enter who ⟨leftN a.n v, a.words⟩ 0
theorem settleAt_eq (who : Nat) (a : At) (r : Nat) : settleAt who a r = settleV who a (a.n.sheet.val r) := rfl

theorem seen_row {W : World} {g who : Nat} {t : TypeId} {a : At} {q sd : Value} (H : St W g t who a q sd) :
    St (W.setCells g 7 [.bool false, .bool false, .bool false, .bool false, .bool false, .bool false]) g t who ⟨{ a.n with seen := fun _ => false }, a.words⟩ q sd := by
  refine ⟨?_, own_grown H.own (grown_setCells _ _ _ _) (by omega), own_grown H.said (grown_setCells _ _ _ _) (by omega)⟩
  refine H.blk.setMid _ _ (by rw [tcells_size]; simp) (fun k => ?_)
  have hl : ([.bool false, .bool false, .bool false, .bool false, .bool false, .bool false] : List Value).length = 6 := rfl
  rw [hl]
  by_cases c : 7 ≤ k ∧ k < 7 + 6
  · rw [if_pos c]
    obtain ⟨r, rfl⟩ : ∃ r, k = 7 + r := ⟨k - 7, by omega⟩
    rw [tcells_seen _ _ _ r (by omega), show 7 + r - 7 = r by omega]
    have hc : r = 0 ∨ r = 1 ∨ r = 2 ∨ r = 3 ∨ r = 4 ∨ r = 5 := by omega
    rcases hc with rfl | rfl | rfl | rfl | rfl | rfl <;> rfl
  · rw [if_neg c]
    by_cases c0 : k < 282
    · rw [tcells_lt _ _ _ _ c0, tcells_lt _ _ _ _ c0, ncells_at _ k c0, ncells_at _ k c0]
      congr 1
      by_cases c1 : k < 7
      · rw [ncell_num _ k c1, ncell_num _ k c1]; exact congrArg (Value.int .i64) (num_of _ _ rfl rfl rfl rfl rfl rfl rfl k c1)
      · have c2 : ¬ k < 13 := by omega
        unfold ncellAt
        rw [if_neg c1, if_neg c1, if_neg c2, if_neg c2]; rfl
    · by_cases c5 : k = 282
      · rw [c5, tcells_who, tcells_who]
      · by_cases c6 : k = 283
        · rw [c6, tcells_sd, tcells_sd]
        · rw [Array.getElem?_eq_none (by rw [tcells_size]; omega), Array.getElem?_eq_none (by rw [tcells_size]; omega)]
theorem info_seen : (Tryz.prog.info? 39).map (·.size) = some 6 := by kernel_rfl

/-- The worlds in which a value is settled: the value lies in a box of its own. -/
def InV (w : World) (g who : Nat) (a : At) (q sd : Value) (b : Nat) (v : Int) (W : World) : Prop := InSt w g who a q sd W ∧ W.cell? ⟨b, 0, none⟩ = some (.int .i64 v)

set_option maxRecDepth 100000 in
set_option maxHeartbeats 4000000 in
theorem trise_any {w : World} {g who : Nat} {a : At} {q sd : Value} (H : St w g 92 who a q sd) (hh : a.n.height < 4) (hlen : a.words.length < 100000) (hql : a.n.queue.length ≤ 1000000) (v : Int) :
    Calls Tryz.prog 84 #[.pointer (some ⟨g, 0, none⟩), .int .i64 v] w fun e w' => e = .returned (.tuple #[]) ∧ ∃ q' sd', InSt w g who (settleV who a v) q' sd' w' := by
  obtain ⟨qa, qc, hqv⟩ := own_shape H.own
  subst hqv
  have hhi : (a.n.height : Int) < 4 := by omega
  have h6 := info_seen
  have hglt := H.lt
  have hC0 : InV w g who a (.slice qa a.n.queue.length qc) sd w.heap.size v (w.alloc (.cells #[.int .i64 v] 3)) := ⟨InSt.keep (w := w) (who := who) (a := a) ⟨H, Below.refl _ _⟩ (by go_grown), by simp⟩
  go_enter Tryz.func84, Tryz.ntmps84
  go_wp2_with fail
  refine held_region (InV w g who a (.slice qa a.n.queue.length qc) sd w.heap.size v) [11] [(0, 0), (1, 0), (2, 0), (3, 0), (4, 0), (5, 1), (6, 1), (7, 0), (8, 0), (9, 0), (10, 0), (11, 2)] (by kernel_rfl) (by kernel_rfl) (by kernel_rfl) rfl (fun _ _ d _ _ h => by cases d <;> exact h) ⟨hC0.1.drew, hC0.2⟩ ?_
  repeat (first
    | (refine ord_run0_ex rfl (by rfl) ?_
       apply Exists.intro
       refine ⟨fun w0 => ?_, ?_⟩
       · go_simp; rfl
       simp only [Act.put, List.setIfInBounds_toArray, List.set_cons_zero, List.set_cons_succ])
    | (refine ord_run1_ex rfl (by rfl) ?_
       apply Exists.intro
       refine ⟨fun w0 hC => ?_, ?_⟩
       · obtain ⟨c0, c1, c2, c3, c4, c5, c6, c7, c8⟩ := hC.1.1.blk.tnums; have cv := hC.2; clear hC; go_simp; rfl
       simp only [Act.put, List.setIfInBounds_toArray, List.set_cons_zero, List.set_cons_succ]))
  have hC1 : InV w g who a (.slice qa a.n.queue.length qc) sd w.heap.size v (w.alloc (.cells #[.int .i64 v] 3)).drew := ⟨hC0.1.drew, hC0.2⟩
  clear hC0
  have hbn : w.heap.size < ((w.alloc (.cells #[.int .i64 v] 3)).drew).heap.size := by simp
  generalize (w.alloc (.cells #[.int .i64 v] 3)).drew = W1 at hC1 hbn ⊢
  have cs := hC1.1.1.blk.cell (277 + a.n.height)
  have fs := hC1.1.1.blk.free (277 + a.n.height)
  rw [tcells_settled _ _ _ _ hh] at cs
  refine ord_do rfl ?_
  go_wp2_with fail
  refine ⟨fun hc => absurd hc (by decide), ?_⟩
  show wpOrd _ _ _ _ _ [] _ _ _
  unfold wpOrd
  have H2 := hC1.1.1.put (j := 277 + a.n.height) (v := .int .i64 v) { a.n with settled := fun g => if g = a.n.height then v else a.n.settled g } (by omega) (set_settled _ _ hh _) rfl
  have L2 := bel_put hC1.1.2 (277 + a.n.height) (.int .i64 v)
  have cv2 : (W1.setCell ⟨g, 277 + a.n.height, none⟩ (.int .i64 v)).cell? ⟨w.heap.size, 0, none⟩ = some (.int .i64 v) := by
    rw [World.cell?_of_block (heap_setCell_other W1 ⟨g, 277 + a.n.height, none⟩ w.heap.size _ (by show w.heap.size ≠ g; omega))]; exact hC1.2
  have hbn2 : w.heap.size < (W1.setCell ⟨g, 277 + a.n.height, none⟩ (.int .i64 v)).heap.size := by simpa using hbn
  clear cs fs hbn hC1
  generalize W1.setCell ⟨g, 277 + a.n.height, none⟩ (.int .i64 v) = W2 at H2 L2 cv2 hbn2 ⊢
  obtain ⟨c0, c1, c2, c3, c4, c5, c6, c7, c8⟩ := H2.blk.tnums
  have hob : ∀ k, (Value.slice qa a.n.queue.length qc).ownBlock = some k → w.heap.size ≠ k := fun k hk e => by have := (own_block H.own k hk).2.1; omega
  go_wp2_with fail
  refine (delete_own v w.heap.size (g + 1) a.n.queue _ W2 H2.own hql cv2 hob).mono ?_
  rintro e W3 ⟨qa', ql', qc', rfl, hown3, G3⟩
  have hg3 : some g ≠ (Value.slice qa a.n.queue.length qc).ownBlock := fun h => by have := (own_block H2.own g h.symm).1; omega
  have B3 := blk_grown H2.blk G3 hg3
  have S3 := own_apart H2.said H2.own (by decide) G3
  have L3 : Below g w W3 := bel_seq L2 (below_own H2.own G3 (by omega) (by have := H2.lt; omega))
  clear c0 c1 c2 c3 c4 c5 c6 c7 c8
  obtain ⟨c0, c1, c2, c3, c4, c5, c6, c7, c8⟩ := B3.tnums
  have f0 := B3.free 0
  have f3 := B3.free 3
  have f4 := B3.free 4
  have f5 := B3.free 5
  have f6 := B3.free 6
  have f7 := B3.free 281
  have B4 := B3.setCell 281 (.slice qa' ql' qc')
  rw [tcells_set (set_q _ _) (by omega)] at B4
  have H4 : St (W3.setCell ⟨g, 281, none⟩ (.slice qa' ql' qc')) g 92 who ⟨{ a.n with settled := fun g => if g = a.n.height then v else a.n.settled g, queue := a.n.queue.filter (fun x => x != v) }, a.words⟩ (.slice qa' ql' qc') sd :=
    ⟨B4, own_grown hown3 (grown_setCell _ _ _ _) (by omega), own_grown S3 (grown_setCell _ _ _ _) (by omega)⟩
  have H5 := ((((H4.put (j := 0) (v := .int .i64 ((a.n.height : Int) + 1)) { a.n with settled := fun g => if g = a.n.height then v else a.n.settled g, queue := a.n.queue.filter (fun x => x != v), height := a.n.height + 1 } (by omega) (set_height _ _) rfl).put (j := 3) (v := .int .i64 0) { a.n with settled := fun g => if g = a.n.height then v else a.n.settled g, queue := a.n.queue.filter (fun x => x != v), height := a.n.height + 1, bound := 0 } (by omega) (set_bound _ _) rfl).put (j := 4) (v := .int .i64 (-1)) { a.n with settled := fun g => if g = a.n.height then v else a.n.settled g, queue := a.n.queue.filter (fun x => x != v), height := a.n.height + 1, bound := 0, boundIn := -1 } (by omega) (set_boundIn _ _) rfl).put (j := 5) (v := .int .i64 0) { a.n with settled := fun g => if g = a.n.height then v else a.n.settled g, queue := a.n.queue.filter (fun x => x != v), height := a.n.height + 1, bound := 0, boundIn := -1, valid := 0 } (by omega) (set_valid _ _) rfl).put (j := 6) (v := .int .i64 (-1)) { a.n with settled := fun g => if g = a.n.height then v else a.n.settled g, queue := a.n.queue.filter (fun x => x != v), height := a.n.height + 1, bound := 0, boundIn := -1, valid := 0, validIn := -1 } (by omega) (set_validIn _ _) rfl
  have L5 := bel_put (bel_put (bel_put (bel_put (bel_put (bel_put L3 281 (.slice qa' ql' qc')) 0 (.int .i64 ((a.n.height : Int) + 1))) 3 (.int .i64 0)) 4 (.int .i64 (-1))) 5 (.int .i64 0)) 6 (.int .i64 (-1))
  clear B4 H4 B3 S3 hown3 G3 L3 H2 L2
  go_upto_region 6 with fail
  generalize (((((W3.setCell ⟨g, 281, none⟩ (.slice qa' ql' qc')).setCell ⟨g, 0, none⟩ (.int .i64 ((a.n.height : Int) + 1))).setCell ⟨g, 3, none⟩ (.int .i64 0)).setCell ⟨g, 4, none⟩ (.int .i64 (-1))).setCell ⟨g, 5, none⟩ (.int .i64 0)).setCell ⟨g, 6, none⟩ (.int .i64 (-1)) = W5 at H5 L5 ⊢
  have e7 : W5.cell? ⟨g, 7, none⟩ = some (.bool (a.n.seen 0)) := by rw [H5.blk.cell 7]; exact tcells_seen _ _ _ 0 (by omega)
  have g7 := H5.blk.free 7
  have e8 : W5.cell? ⟨g, 8, none⟩ = some (.bool (a.n.seen 1)) := by rw [H5.blk.cell 8]; exact tcells_seen _ _ _ 1 (by omega)
  have g8 := H5.blk.free 8
  have e9 : W5.cell? ⟨g, 9, none⟩ = some (.bool (a.n.seen 2)) := by rw [H5.blk.cell 9]; exact tcells_seen _ _ _ 2 (by omega)
  have g9 := H5.blk.free 9
  have e10 : W5.cell? ⟨g, 10, none⟩ = some (.bool (a.n.seen 3)) := by rw [H5.blk.cell 10]; exact tcells_seen _ _ _ 3 (by omega)
  have g10 := H5.blk.free 10
  have e11 : W5.cell? ⟨g, 11, none⟩ = some (.bool (a.n.seen 4)) := by rw [H5.blk.cell 11]; exact tcells_seen _ _ _ 4 (by omega)
  have g11 := H5.blk.free 11
  have e12 : W5.cell? ⟨g, 12, none⟩ = some (.bool (a.n.seen 5)) := by rw [H5.blk.cell 12]; exact tcells_seen _ _ _ 5 (by omega)
  have g12 := H5.blk.free 12
  have H6 : St ((((((W5.setCell ⟨g, 7, none⟩ (.bool false)).setCell ⟨g, 8, none⟩ (.bool false)).setCell ⟨g, 9, none⟩ (.bool false)).setCell ⟨g, 10, none⟩ (.bool false)).setCell ⟨g, 11, none⟩ (.bool false)).setCell ⟨g, 12, none⟩ (.bool false)) g 92 who ⟨leftN a.n v, a.words⟩ (.slice qa' ql' qc') sd := seen_row H5
  have L6 : Below g w ((((((W5.setCell ⟨g, 7, none⟩ (.bool false)).setCell ⟨g, 8, none⟩ (.bool false)).setCell ⟨g, 9, none⟩ (.bool false)).setCell ⟨g, 10, none⟩ (.bool false)).setCell ⟨g, 11, none⟩ (.bool false)).setCell ⟨g, 12, none⟩ (.bool false)) := Below.setCells' (B := g) (g := g) (Nat.le_refl _) [.bool false, .bool false, .bool false, .bool false, .bool false, .bool false] 7 W5 L5
  clear H5 L5 c0 c1 c2 c3 c4 c5 c6 c7 c8 f0 f3 f4 f5 f6 f7
  go_upto_region 7 with fail
  clear e7 e8 e9 e10 e11 e12 g7 g8 g9 g10 g11 g12
  generalize ((((((W5.setCell ⟨g, 7, none⟩ (.bool false)).setCell ⟨g, 8, none⟩ (.bool false)).setCell ⟨g, 9, none⟩ (.bool false)).setCell ⟨g, 10, none⟩ (.bool false)).setCell ⟨g, 11, none⟩ (.bool false)).setCell ⟨g, 12, none⟩ (.bool false)) = W6 at H6 L6 ⊢
  obtain ⟨d0, d1, d2, d3, d4, d5, d6, d7, d8⟩ := H6.blk.tnums
  have d0' : W6.cell? ⟨g, 0, none⟩ = some (.int .i64 ((a.n.height : Int) + 1)) := d0
  clear d0
  by_cases hlt : a.n.height + 1 < 4
  · have hlti : (a.n.height : Int) + 1 < 4 := by omega
    have hcon := tenter_any H6 hlt 0 (by omega) hlen (Or.inl rfl)
    go_wp2_with (first | (go_at_call 54; refine hcon.mono ?_; rintro e w7 ⟨rfl, sd', H7, L7⟩))
    refine bodyPost_ret (results_none rfl _ _ _) rfl ?_
    exact ⟨rfl, _, sd', H7, bel_seq L6 L7⟩
  · have hlti : ¬ (a.n.height : Int) + 1 < 4 := by omega
    have g1 := H6.blk.free 1
    have g2 := H6.blk.free 2
    go_wp2
    go_end0
    have H7 := (H6.put (j := 1) (v := .int .i64 0) { leftN a.n v with round := 0 } (by omega) (set_round _ _) rfl).put (j := 2) (v := .int .i64 0) { leftN a.n v with round := 0, step := 0 } (by omega) (set_step _ _) rfl
    have he : settleV who a v = ⟨{ leftN a.n v with round := 0, step := 0 }, a.words⟩ := by
      unfold settleV
      simp only [enter]
      exact if_pos (Or.inl (show a.n.height + 1 = 4 by omega))
    rw [he]
    exact ⟨rfl, _, sd, H7, bel_put (bel_put L6 _ _) _ _⟩
end Go.Proofs.YtmmgaonlmpajbacGreat
namespace Go.Proofs.YtmmgaonlmpajbacGreat
open Go.RowKit

/-- A sheet's six calls. -/
def callsR (S : Sh) : Array Value := ((List.range 18).map (cellAt S)).toArray
theorem info_calls (S : Sh) : (Tryz.prog.info? 42).map (·.size) = some (callsR S).size := by simp only [callsR, List.size_toArray, List.length_map, List.length_range]; kernel_rfl
theorem calls_range {W : World} {g who : Nat} {t : TypeId} {n : Nd} {q sd : Value} (B : Blk W g (tcells (n.ni q) who sd) t) (h : Nat) (hh : h < 4) : W.rangeAt g (13 + h * 66) (callsR (n.heard h)).toList := by
  intro j u hu
  have hj : j < 18 := by
    by_cases hlt : j < 18
    · exact hlt
    · rw [List.getElem?_eq_none (by simp [callsR]; omega)] at hu; cases hu
  rw [B.cell, tcells_heard _ _ _ h j hh (by omega)]
  have e : (callsR (n.heard h)).toList[j]? = some (cellAt (n.heard h) j) := by simp [callsR, hj]
  rw [e] at hu
  exact hu
theorem index_call (S : Sh) (r : Nat) (hr : r < 6) (W : World) : Sem.run Tryz.prog (Instr.index 42 (.agg (callsR S)) (.int .i64 (r : Int))) W = .ok (.agg #[.bool (S.is r), .int .i64 (S.val r), .int .i64 (S.vld r)]) W := by
  have hc : r = 0 ∨ r = 1 ∨ r = 2 ∨ r = 3 ∨ r = 4 ∨ r = 5 := by omega
  rcases hc with rfl | rfl | rfl | rfl | rfl | rfl
  · show _ = _; kernel_rfl
  · show _ = _; kernel_rfl
  · show _ = _; kernel_rfl
  · show _ = _; kernel_rfl
  · show _ = _; kernel_rfl
  · show _ = _; kernel_rfl

theorem first_none {S : Sh} (h : ∀ j, j < 6 → settles S j = false) : firstSettled S = none := by
  unfold firstSettled
  rw [List.find?_eq_none]
  intro r hr
  have : r < 6 := by simpa using hr
  simp [h r this]
theorem first_some {S : Sh} {k : Nat} (hk : k < 6) (h1 : settles S k = true) (h : ∀ j, j < k → settles S j = false) : firstSettled S = some k := by
  unfold firstSettled
  rw [show List.range 6 = [0, 1, 2, 3, 4, 5] from rfl]
  have hc : k = 0 ∨ k = 1 ∨ k = 2 ∨ k = 3 ∨ k = 4 ∨ k = 5 := by omega
  rcases hc with rfl | rfl | rfl | rfl | rfl | rfl
  · simp only [List.find?_cons, h1]
  · simp only [List.find?_cons, h1, h 0 (by omega)]
  · simp only [List.find?_cons, h1, h 0 (by omega), h 1 (by omega)]
  · simp only [List.find?_cons, h1, h 0 (by omega), h 1 (by omega), h 2 (by omega)]
  · simp only [List.find?_cons, h1, h 0 (by omega), h 1 (by omega), h 2 (by omega), h 3 (by omega)]
  · simp only [List.find?_cons, h1, h 0 (by omega), h 1 (by omega), h 2 (by omega), h 3 (by omega), h 4 (by omega)]

set_option maxRecDepth 100000 in
set_option maxHeartbeats 4000000 in
theorem tsettle_any {w : World} {g who : Nat} {a : At} {q sd : Value} (H : St w g 92 who a q sd) (hh : a.n.height < 4) (hlen : a.words.length < 100000) (hql : a.n.queue.length ≤ 1000000) (hV : ∀ r, r < 6 → VBd ((a.n.heard a.n.height).pr r)) :
    Calls Tryz.prog 63 #[.pointer (some ⟨g, 0, none⟩)] w fun e w' =>
      (firstSettled a.n.sheet = none ∧ e = .returned (.bool false) ∧ InSt w g who a q sd w') ∨ (∃ r, firstSettled a.n.sheet = some r ∧ e = .returned (.bool true) ∧ ∃ q' sd', InSt w g who (settleAt who a r) q' sd' w') := by
  have hhi : (a.n.height : Int) < 4 := by omega
  have hi3 := info_call
  have hic := info_calls (a.n.heard a.n.height)
  go_enter Tryz.func63, Tryz.ntmps63
  go_wp2_with (first
    | (go_at_call 58; refine (tsheet_any H.blk hh).mono ?_; rintro e w1 ⟨rfl, hb1⟩; have hC1 := InSt.keep (w := w) (who := who) (a := a) (q := q) (sd := sd) ⟨H, Below.refl _ _⟩ hb1; have hr := calls_range hC1.1.blk a.n.height hh)
    | (refine wpList_load_part (by rfl) 42 _ rfl g (13 + a.n.height * 66) rfl (callsR (a.n.heard a.n.height)) _ hr Tryz.underlying42 rfl hic ?_))
  clear hb1 hr
  go_loopw [12] (fun i W => ∃ k : Nat, k ≤ 6 ∧ i = .int .i64 (k : Int) ∧ Hid (∀ j, j < k → settles (a.n.heard a.n.height) j = false) ∧ InSt w g who a q sd W) (fun i _ => 6 - (intOf i).toNat)
  case atStart => exact ⟨0, by omega, rfl, fun j hj => by omega, hC1⟩
  case round =>
    clear hC1
    obtain ⟨k, hk, rfl, hno, hC⟩ := hrel
    by_cases hlt : k < 6
    · have hlti : (k : Int) < 6 := by omega
      have hix := index_call (a.n.heard a.n.height) k hlt
      have hst : Hid (settles (a.n.heard a.n.height) k = ((a.n.heard a.n.height).is k && decide (3 ≤ cntV ((a.n.heard a.n.height).pr k) ((a.n.heard a.n.height).val k)))) := rfl
      have hcar : ∀ W, _ := fun W => carried_any ((a.n.heard a.n.height).is k) ((a.n.heard a.n.height).val k) ((a.n.heard a.n.height).vld k) ((a.n.heard a.n.height).pr k) (hV k hlt) W
      have hpr : ∀ W, InSt w g who a q sd W → W.rangeAt g (13 + a.n.height * 66 + 42 + k * 4) (vcells ((a.n.heard a.n.height).pr k)).toList := fun W h => h.1.blk.tpr a.n.height k hh hlt
      have hiv := infoV ((a.n.heard a.n.height).pr k)
      have hsv : Hid (settleAt who a k = settleV who a ((a.n.heard a.n.height).val k)) := rfl
      generalize (a.n.heard a.n.height).is k = p at hix hst hcar
      generalize (a.n.heard a.n.height).val k = y at hix hst hcar hsv
      generalize (a.n.heard a.n.height).vld k = x at hix hcar
      generalize (a.n.heard a.n.height).pr k = V at hst hcar hpr hiv
      generalize hcv : (p && decide (3 ≤ cntV V y)) = cv at hst hcar
      clear hcv
      go_wp2_with fail
      clear hix
      have hC2 : InC w g who a q sd wr.heap.size #[.bool p, .int .i64 y, .int .i64 x] (wr.alloc (.cells #[.bool p, .int .i64 y, .int .i64 x] 41)) := ⟨hC.alloc _, Blk.new wr _ _⟩
      refine q_region (C := InC w g who a q sd wr.heap.size #[.bool p, .int .i64 y, .int .i64 x]) (by kernel_rfl) (by kernel_rfl) hC2.drew ?_
      repeat (first
        | (refine q_skip (by rfl) ?_; simp only [Act.put, List.setIfInBounds_toArray, List.set_cons_zero, List.set_cons_succ])
        | (refine q_load (by rfl) 43 _ rfl g (13 + a.n.height * 66 + 42 + k * 4) rfl (vcells V) _ (fun W H => hpr W H.1) Tryz.underlying43 rfl hiv ?_; simp only [Act.put, List.setIfInBounds_toArray, List.set_cons_zero, List.set_cons_succ])
        | (refine q_load (by rfl) 41 _ rfl wr.heap.size 0 rfl #[.bool p, .int .i64 y, .int .i64 x] _ (fun W H => H.2.range) Tryz.underlying41 rfl hi3 ?_; simp only [Act.put, List.setIfInBounds_toArray, List.set_cons_zero, List.set_cons_succ])
        | (refine q_run_ex (by rfl) ?_
           apply Exists.intro
           refine ⟨fun w0 hC => ?_, ?_⟩
           · obtain ⟨d0, d1, d2⟩ := callcell hC.2; clear hC; go_simp; rfl
           simp only [Act.put, List.setIfInBounds_toArray, List.set_cons_zero, List.set_cons_succ])
        | (refine q_call_ex (by rfl) ?_
           apply Exists.intro
           apply Exists.intro
           apply Exists.intro
           refine ⟨fun w0 hC => ?_, fun w0 hC => ?_, ?_⟩
           · clear hC; go_simp; exact ⟨rfl, rfl⟩
           · first | exact (hcar w0).mono (fun e w' ⟨he, hb⟩ => ⟨he, hC.keep hb⟩)
           simp only [Act.put, List.setIfInBounds_toArray, List.set_cons_zero, List.set_cons_succ]))
      refine q_nil ?_
      intro w5 hC5
      clear hC hC2
      obtain ⟨d0, d1, d2⟩ := callcell hC5.2
      cases cv
      · go_wp2
        go_roundw
        case measure => simp [intOf]; omega
        case rel =>
          refine ⟨k + 1, by omega, by go_num, ?_, hC5.1⟩
          show ∀ j, j < k + 1 → settles (a.n.heard a.n.height) j = false
          intro j hj
          by_cases hjk : j = k
          · rw [hjk]; exact hst.out
          · exact hno.out j (by omega)
      · go_wp2_with (first | (go_at_call 84; refine (trise_any hC5.1.1 hh hlen hql y).mono ?_; rintro e w6 ⟨rfl, q', sd', H6, L6⟩))
        go_ret
        exact Or.inr ⟨k, first_some (S := a.n.heard a.n.height) hlt hst.out hno.out, rfl, q', sd', by rw [hsv.out]; exact ⟨H6, bel_seq hC5.1.2 L6⟩⟩
    · have hlti : ¬ (k : Int) < 6 := by omega
      go_wp2
      go_ret
      exact Or.inl ⟨first_none (S := a.n.heard a.n.height) (fun j hj => hno.out j (by omega)), rfl, hC⟩
end Go.Proofs.YtmmgaonlmpajbacGreat
