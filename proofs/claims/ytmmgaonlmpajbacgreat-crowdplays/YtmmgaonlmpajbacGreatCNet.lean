/-
  What the library does with letters: slices.Clone, slices.Delete.
-/
import Derived.Test.YtmmgaonlmpajbacGreatCSend
import Derived.Test.YtmmgaonlmpajbacGreatTurnD
namespace Go.Proofs.YtmmgaonlmpajbacGreat
open Go.RowKit

theorem eql_nilL (W : World) (a : Option Addr) (n c n' c' : Nat) : (binOp .eql 52 (.slice a n c) (.slice none n' c')).run Tryz.prog W = .ok (.bool a.isNone) W := Lib.run_eql_slice_nil W _ _ a n c n' c' Tryz.underlying52
theorem one_les (l : List (Nat × Wd)) : ∀ u : Value, u ∈ lesCells l → u.oneCell' = true := fun u hu => by
  simp only [lesCells, List.mem_flatMap] at hu
  obtain ⟨x, _, hx⟩ := hu
  simp only [leCells, wdCells, List.mem_cons, List.not_mem_nil, or_false] at hx
  rcases hx with rfl | rfl | rfl | rfl | rfl | rfl | rfl <;> rfl

set_option maxHeartbeats 2000000 in
set_option maxRecDepth 100000 in
theorem cloneL_any (net : List (Nat × Wd)) (nt : Value) (base : Nat) (w : World) (hn : w.ownsRow base 79 7 nt net.length (lesCells net)) (hl : net.length ≤ 2000) :
    Calls Tryz.prog 31 #[nt] w fun e w' => ∃ q, e = .returned q ∧ w'.ownsRow w.heap.size 79 7 q net.length (lesCells net) ∧ Below w.heap.size w w' := by
  have q59 := eql_nilL
  rcases hn.2 with ⟨rfl, h0⟩ | ⟨g, cap, cur, rfl, hb, hh, hcap, hmax, hcs, htake⟩
  · have e0 : net = [] := List.eq_nil_of_length_eq_zero h0
    subst e0
    go_enter Tryz.func31, Tryz.ntmps31
    go_wp2
    go_ret
    exact ⟨_, rfl, World.ownsRow_nil _ _ _ _, Below.refl _ _⟩
  · obtain ⟨i0, hi, hz0, hz1, hz2⟩ := info_le
    have hnews : ∀ (j : Nat) (u : Value), (lesCells net)[j]? = some u → (w.alloc (.cells #[] 79)).cell? ((⟨g, 0, none⟩ : Addr).add j) = some u := fun j u hu =>
      cell_on (hn.cells (g := g) rfl j u hu) (show Below w.heap.size w (w.alloc (.cells #[] 79)) by go_grown)
    have hone := one_les net
    have h63 : 0 + net.length ≤ maxLen := by unfold maxLen; omega
    have hll : (lesCells net).length = net.length * 7 := lesCells_length net
    clear hcs htake hn
    go_enter Tryz.func31, Tryz.ntmps31
    go_wp2_with (at_builtin; refine wpList_append_own _ rfl _ _ 52 rfl w.heap.size 79 i0 _ 7 56 Tryz.underlying52 hi hz0 hz1 hz2 rfl (by decide) _ 0 [] rfl (World.ownsRow_made w #[] 0 (Nat.le_refl _) (Nat.zero_le _) rfl) ⟨g, 0, none⟩ net.length cap (lesCells net) rfl hll hnews hone h63 (by omega) (by simp) ?_; intro v' w1 hown hgrow hnil)
    go_ret
    refine ⟨v', rfl, by simpa using hown, ?_⟩
    exact ((Below.refl _ w).alloc (Nat.le_refl _) _).grown hgrow (by simp) (by intro k hk; have hk' : some w.heap.size = some k := hk; injection hk' with hk'; omega)

theorem size_le (W : World) : (sizeOf 79).run Tryz.prog W = .ok 7 W := by show _ = _; kernel_rfl
theorem elem_le : Tryz.prog.underlying 52 = some (.slice (Tryz.prog.elem 52)) := by kernel_rfl
theorem elem_le' : Tryz.prog.elem 52 = 79 := by kernel_rfl
theorem sliceH (g len cap x : Nat) (h : x ≤ cap) (W : World) : Sem.run Tryz.prog (Instr.slice 52 (.slice (some ⟨g, 0, none⟩) len cap) none (some (.int .i64 (x : Int))) none) W = .ok (.slice (some ⟨g, 0, none⟩) x cap) W := by
  rw [run_slice_h W _ _ len cap elem_le .i64 (x : Int) (by omega) (by omega), elem_le', size_le]
  simp [sliced, Addr.add_mid]
theorem sliceL (g len cap x : Nat) (h : x ≤ len) (_hc : len ≤ cap) (hx : x < cap) (W : World) : Sem.run Tryz.prog (Instr.slice 52 (.slice (some ⟨g, 0, none⟩) len cap) (some (.int .i64 (x : Int))) none none) W = .ok (.slice (some ⟨g, x * 7, none⟩) (len - x) (cap - x)) W := by
  rw [run_slice_l W _ _ len cap elem_le .i64 (x : Int) (by omega) (by omega), elem_le', size_le]
  have : ¬ cap = x := by omega
  simp [sliced, Addr.add_mid, this]
theorem sliceE (g len x : Nat) (h : x ≤ len) (hl : len ≤ x) (W : World) : Sem.run Tryz.prog (Instr.slice 52 (.slice (some ⟨g, 0, none⟩) len x) (some (.int .i64 (x : Int))) none none) W = .ok (.slice (some ⟨g, 0, none⟩) 0 0) W := by
  rw [run_slice_l W _ _ len x elem_le .i64 (x : Int) (by omega) (by omega), elem_le', size_le]
  have : len = x := by omega
  simp [sliced, this]
theorem clear_le (W : World) (ty : TypeId) (g o c : Nat) {C : Array Value} {t : TypeId} (B : Blk W g C t) (ho : o + 7 ≤ C.size) :
    (Builtin.clear_ #[52] ty #[.slice (some ⟨g, o, none⟩) 1 c]).run Tryz.prog W = .ok (.tuple #[]) (W.setCells g o (List.replicate 7 (.int .i64 0))) := by
  have hz : ∀ W, (zeroValue 79).run Tryz.prog W = .ok (.agg #[.int .i64 0, .int .i64 0, .int .i64 0, .int .i64 0, .int .i64 0, .int .i64 0, .int .i64 0]) W := fun W => by show _ = _; kernel_rfl
  have hzc : (Builtin.zeroCells (Value.agg #[.int .i64 0, .int .i64 0, .int .i64 0, .int .i64 0, .int .i64 0, .int .i64 0, .int .i64 0]).cells 1).toList = List.replicate 7 (.int .i64 0) := by kernel_rfl
  have hst := run_storeCells_cells (P := Tryz.prog) g o (List.replicate 7 (.int .i64 0)) 0 W (fun j hj => by
    have hj' : j < 7 := by simpa using hj
    rw [Nat.add_zero, B.cell, Array.getElem?_eq_getElem (by omega)]; rfl) (fun j _ => B.free _) (fun v hv => by rw [List.eq_of_mem_replicate hv]; rfl)
  simp only [Nat.add_zero] at hst
  simp only [Builtin.clear_, run_underlying Tryz.underlying52, hz, hzc, hst, Sem.run_bind, Sem.run_pure, Result.andThen_ok, List.getElem?_toArray, List.getElem?_cons_zero]

/-- A row takes more elements where it has room for them. -/
theorem wpList_append_in {P : Program} {w : World} {ops : Array Oper} {rest : List Oper} {o : Oper} {a : Act} {Q : Exit → Act → World → Prop} (hgd : o.guard = none) (s x : Operand) (t : TypeId)
    (ho : o.op = .call { callee := .builtin .append, args := #[s, x], argTypes := #[t, t] })
    (e : TypeId) (i : TypeInfo) (ht : P.underlying t = some (.slice e)) (hi : P.info? e = some i) (g n cap : Nat) (cur : Array Value) (hs : a.eval s = .slice (some ⟨g, 0, none⟩) n cap) (hg : Blk w g cur e)
    (ad : Addr) (m c : Nat) (news : List Value) (hx : a.eval x = .slice (some ad) m c) (hl : news.length = m * i.size) (hnews : ∀ j u, news[j]? = some u → w.cell? (ad.add j) = some u) (h1 : ∀ u ∈ news, u.oneCell' = true)
    (hroom : n + m ≤ cap) (hfit : n * i.size + news.length ≤ cur.size)
    (h : ∀ w', Blk w' g (cur.toList.take (n * i.size) ++ news ++ cur.toList.drop (n * i.size + news.length)).toArray e → w.grownBy w' (some g) → wpList P ops Q rest (a.put o.dst (.slice (some ⟨g, 0, none⟩) (n + m) cap)) w') : wpList P ops Q (o :: rest) a w :=
  wpList_plain hgd fun _ hK => by
    have hr := run_append_room (P := P) w t o.type e i ht hi g n cap cur hg ad m c news hl hnews h1 hroom hfit
    unfold Oper.wp execOp
    simp only [ho, resolve, invoke, builtin, Sem.run_bind, Sem.run_pure, Result.andThen_ok, List.map_toArray, List.map_cons, List.map_nil, hs, hx, hr]
    exact hK _ _ (h _ (setRow_heap w g cur _ e _ hg) ⟨rfl, rfl, rfl, by simp, fun k _ hk => setRow_other w g k _ (fun e => hk (by rw [e]))⟩)

theorem delete_blk (net : List (Nat × Wd)) (cur : Array Value) (cap x k : Nat) (w2 : World) (g : Nat) {t0 : TypeId} (hlen : net.length = x + 1 + k) (hcap : x + 1 + k ≤ cap) (hcs : cur.size = cap * 7) (htake : cur.toList.take ((x + 1 + k) * 7) = lesCells net)
    (B2 : Blk w2 g (cur.toList.take (x * 7) ++ lesCells (net.drop (x + 1)) ++ cur.toList.drop (x * 7 + k * 7)).toArray t0) :
    ∃ D : Array Value, Blk (w2.setCells g ((x + k) * 7) (List.replicate 7 (.int .i64 0))) g D t0 ∧ D.size = cap * 7 ∧ D.toList.take ((x + k) * 7) = lesCells (net.eraseIdx x) := by
  have hdl : (lesCells (net.drop (x + 1))).length = k * 7 := by rw [lesCells_length, List.length_drop, hlen, show x + 1 + k - (x + 1) = k by omega]
  have hsz : (cur.toList.take (x * 7) ++ lesCells (net.drop (x + 1)) ++ cur.toList.drop (x * 7 + k * 7)).toArray.size = cap * 7 := by
    simp only [List.size_toArray, List.length_append, List.length_take, List.length_drop, Array.length_toList, hdl, hcs]; omega
  obtain ⟨D, h1, h2, h3⟩ := Blk.setMid_ex (List.replicate 7 (Value.int .i64 0)) ((x + k) * 7) w2 _ B2 (by rw [hsz, List.length_replicate]; omega)
  refine ⟨D, h1, by rw [h2, hsz], ?_⟩
  have e1 : cur.toList.take (x * 7) = lesCells (net.take x) := by
    have ea : lesCells net = lesCells (net.take x) ++ lesCells (net.drop x) := by unfold lesCells; rw [← List.flatMap_append, List.take_append_drop]
    have eb : (lesCells (net.take x)).length = x * 7 := by rw [lesCells_length, List.length_take, hlen, Nat.min_eq_left (by omega)]
    have ec : cur.toList.take (x * 7) = (cur.toList.take ((x + 1 + k) * 7)).take (x * 7) := by rw [List.take_take, Nat.min_eq_left (by omega)]
    rw [ec, htake, ea, List.take_append_of_le_length (by omega), List.take_of_length_le (by omega)]
  have e2 : lesCells (net.eraseIdx x) = cur.toList.take (x * 7) ++ lesCells (net.drop (x + 1)) := by
    rw [List.eraseIdx_eq_take_drop_succ, e1]; unfold lesCells; rw [List.flatMap_append]
  have e3 : (cur.toList.take (x * 7) ++ lesCells (net.drop (x + 1))).length = (x + k) * 7 := by
    rw [List.length_append, hdl, List.length_take, Array.length_toList, hcs]; omega
  rw [e2]
  apply List.ext_getElem?
  intro t
  rw [List.getElem?_take]
  by_cases ht : t < (x + k) * 7
  · rw [if_pos ht, Array.getElem?_toList, h3 t, if_neg (by omega), List.getElem?_toArray, List.getElem?_append_left (by rw [e3]; exact ht)]
  · rw [if_neg ht, List.getElem?_eq_none (by rw [e3]; omega)]

set_option maxHeartbeats 2000000 in
set_option maxRecDepth 100000 in
theorem deleteL_any (net : List (Nat × Wd)) (g cap x k : Nat) (w : World) (hlen : net.length = x + 1 + k) (hn : w.ownsRow 0 79 7 (.slice (some ⟨g, 0, none⟩) (x + 1 + k) cap) (x + 1 + k) (lesCells net)) (_hl : x + 1 + k ≤ 2000) :
    Calls Tryz.prog 38 #[.slice (some ⟨g, 0, none⟩) ((x + 1 + k : Nat)) cap, .int .i64 (x : Int), .int .i64 ((x + 1 : Nat) : Int)] w fun e w' =>
      e = .returned (.slice (some ⟨g, 0, none⟩) (x + k) cap) ∧ w'.ownsRow 0 79 7 (.slice (some ⟨g, 0, none⟩) (x + k) cap) (x + k) (lesCells (net.eraseIdx x)) ∧ w.grownBy w' (some g) := by
  have hcap : x + 1 + k ≤ cap := by
    rcases hn.2 with ⟨h, _⟩ | ⟨g', cap', cur, h, _, _, hc, _⟩
    · cases h
    · injection h with _ _ h; omega
  have hcapI : ((x : Int) + 1 + k) ≤ cap := by omega
  have hne : ((x : Int) == ((x + 1 : Nat) : Int)) = false := by simp; omega
  have HN : Hid (net.length = x + 1 + k) := hlen
  clear hlen
  go_enter Tryz.func38, Tryz.ntmps38
  go_wp2_with fail
  refine held_region (fun _ => True) [] [(0, 0), (1, 0), (2, 0), (3, 0), (4, 0), (5, 0), (6, 2), (7, 0)] (by kernel_rfl) (by kernel_rfl) (by kernel_rfl) rfl (fun _ _ d _ _ h => by cases d <;> exact h) trivial ?_
  have hs1 := sliceH g (x + 1 + k) cap x (by omega)
  obtain ⟨cur, hcs, htake, Bg, hmax⟩ : ∃ cur : Array Value, cur.size = cap * 7 ∧ cur.toList.take ((x + 1 + k) * 7) = lesCells net ∧ Blk w g cur 79 ∧ cap ≤ maxLen := by
    rcases hn.2 with ⟨h, _⟩ | ⟨g', cap', cur, h, _, hh, hc, hm, hs, ht⟩
    · cases h
    · injection h with h1 _ h3
      injection h1 with h1
      injection h1 with h1 _ _
      subst h1 h3
      exact ⟨cur, hs, ht, hh, hm⟩
  have hdl : (lesCells (net.drop (x + 1))).length = k * 7 := by rw [lesCells_length, List.length_drop, HN.out, show x + 1 + k - (x + 1) = k by omega]
  have hsplit : ∀ j, (lesCells (net.drop (x + 1)))[j]? = (lesCells net)[(x + 1) * 7 + j]? := fun j => by
    have e : lesCells net = lesCells (net.take (x + 1)) ++ lesCells (net.drop (x + 1)) := by
      unfold lesCells; rw [← List.flatMap_append, List.take_append_drop]
    have e2 : (lesCells (net.take (x + 1))).length = (x + 1) * 7 := by rw [lesCells_length, List.length_take, HN.out, Nat.min_eq_left (by omega)]
    rw [e, List.getElem?_append_right (by omega), e2, show (x + 1) * 7 + j - (x + 1) * 7 = j by omega]
  obtain ⟨off, c2, hs2, hnews⟩ : ∃ off c2, (∀ W, Sem.run Tryz.prog (Instr.slice 52 (.slice (some ⟨g, 0, none⟩) (x + 1 + k) cap) (some (.int .i64 ((x : Int) + 1))) none none) W = .ok (.slice (some ⟨g, off, none⟩) k c2) W) ∧ ∀ j u, (lesCells (net.drop (x + 1)))[j]? = some u → w.drew.cell? ((⟨g, off, none⟩ : Addr).add j) = some u := by
    by_cases hc : cap = x + 1
    · have hk0 : k = 0 := by omega
      refine ⟨0, 0, fun W => ?_, fun j u hu => ?_⟩
      · subst hc
        have := sliceE g (x + 1 + k) (x + 1) (by omega) (by omega) W
        rw [hk0] at this ⊢
        exact this
      · rw [List.getElem?_eq_none (by omega)] at hu; cases hu
    · refine ⟨(x + 1) * 7, cap - (x + 1), fun W => ?_, fun j u hu => ?_⟩
      · have := sliceL g (x + 1 + k) cap (x + 1) (by omega) (by omega) (by omega) W
        rw [show x + 1 + k - (x + 1) = k by omega] at this
        exact this
      · rw [Addr.add_mid]
        show w.cell? _ = _
        have hj : j < k * 7 := by
          by_cases c : j < k * 7
          · exact c
          · rw [List.getElem?_eq_none (by omega)] at hu; cases hu
        rw [hsplit, ← htake, List.getElem?_take, if_pos (by omega), Array.getElem?_toList] at hu
        rw [Bg.cell]; exact hu
  obtain ⟨i0, hi, hz0, hz1, hz2⟩ := info_le
  have hone := one_les (net.drop (x + 1))
  repeat (first
    | (refine ord_run0_ex rfl (by rfl) ?_
       apply Exists.intro
       refine ⟨fun w0 => ?_, ?_⟩
       · go_simp; rfl
       simp only [Act.put, List.setIfInBounds_toArray, List.set_cons_zero, List.set_cons_succ]))
  refine ord_do rfl ?_
  refine wpList_append_in rfl _ _ 52 rfl 79 i0 Tryz.underlying52 hi g x cap cur rfl Bg.drew ⟨g, off, none⟩ k c2 (lesCells (net.drop (x + 1))) rfl (by rw [hz1]; exact hdl) hnews hone (by omega) (by rw [hz1, hdl, hcs]; omega) ?_
  rw [hz1, hdl]
  intro w2 B2 G2
  refine ⟨fun _ => trivial, ?_⟩
  simp only [Act.put, List.setIfInBounds_toArray, List.set_cons_zero, List.set_cons_succ]
  repeat (first
    | (refine ord_run0_ex rfl (by rfl) ?_
       apply Exists.intro
       refine ⟨fun w0 => ?_, ?_⟩
       · go_simp; rfl
       simp only [Act.put, List.setIfInBounds_toArray, List.set_cons_zero]))
  show wpOrd _ _ _ _ _ [] _ _ _
  unfold wpOrd
  clear hs1 hs2 hnews hone hn Bg
  have hsz : (cur.toList.take (x * 7) ++ lesCells (net.drop (x + 1)) ++ cur.toList.drop (x * 7 + k * 7)).toArray.size = cap * 7 := by
    simp only [List.size_toArray, List.length_append, List.length_take, List.length_drop, Array.length_toList, hdl, hcs]; omega
  have hcl : ∀ ty, (Builtin.clear_ #[52] ty #[.slice (some ⟨g, (x + k) * 7, none⟩) (x + 1 + k - (x + k)) (cap - (x + k))]).run Tryz.prog w2 = .ok (.tuple #[]) (w2.setCells g ((x + k) * 7) (List.replicate 7 (.int .i64 0))) := fun ty => by
    rw [show x + 1 + k - (x + k) = 1 by omega]
    exact clear_le w2 ty g _ _ B2 (by rw [hsz]; omega)
  have HD : Hid (∃ D : Array Value, Blk (w2.setCells g ((x + k) * 7) (List.replicate 7 (.int .i64 0))) g D 79 ∧ D.size = cap * 7 ∧ D.toList.take ((x + k) * 7) = lesCells (net.eraseIdx x)) := delete_blk net cur cap x k w2 g HN.out hcap hcs htake B2
  go_wp2
  go_ret
  obtain ⟨D, h1, h2, h3⟩ := HD.out
  have hle : (lesCells (net.eraseIdx x)).length = (x + k) * 7 := by rw [lesCells_length, List.length_eraseIdx, HN.out, if_pos (by omega), show x + 1 + k - 1 = x + k by omega]
  refine ⟨rfl, ⟨hle, Or.inr ⟨g, cap, D, rfl, Nat.zero_le _, h1, by omega, hmax, h2, h3⟩⟩, ?_⟩
  exact grown_trans ⟨G2.os, G2.tape, G2.output, G2.size, G2.block⟩ (grown_setCells _ _ _ _)
end Go.Proofs.YtmmgaonlmpajbacGreat
