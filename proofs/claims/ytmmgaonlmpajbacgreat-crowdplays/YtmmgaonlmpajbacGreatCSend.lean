/-
  The landed package crowd: refuse, isLetter, send.
-/
import Derived.Test.YtmmgaonlmpajbacGreatCrowdM
import Derived.Test.YtmmgaonlmpajbacGreatOwnW
import Derived.Test.YtmmgaonlmpajbacGreatTurnA
namespace Go.Proofs.YtmmgaonlmpajbacGreat
open Go.RowKit

/-- A reply: an error's number, how many letters, four numbers. -/
def rcells (code n : Int) (f : Nat → Int) : Array Value := #[.int .i64 code, .int .i64 n, .int .i64 (f 0), .int .i64 (f 1), .int .i64 (f 2), .int .i64 (f 3)]
def refused (code : Int) : Array Value := rcells code 0 fun _ => 0

set_option maxHeartbeats 1000000 in
theorem crefuse_any (code : Int) (w : World) : Calls Tryz.prog 16 #[.int .i64 code] w fun e w' => e = .returned (.agg (refused code)) ∧ Below w.heap.size w w' := by
  go_enter Tryz.func16, Tryz.ntmps16
  go_wp2
  exact bodyPost_ret (v := .agg (refused code)) (by simp [results, Tryz.results16, go_sem, refused, rcells]) rfl ⟨rfl, by go_grown⟩

set_option maxRecDepth 100000 in
set_option maxHeartbeats 1000000 in
theorem isLetter_any {w : World} {g : Nat} {c : Cw} {q : Nat → Value} {nt : Value} (H : CwAt w g 62 c q nt) (hlen : c.net.length ≤ 2000) (x : Int) :
    Calls Tryz.prog 36 #[.pointer (some ⟨g, 0, none⟩), .int .i64 x] w fun e w' => e = .returned (.bool (win x 0 ((c.net.length : Int) - 1))) ∧ w' = w := by
  obtain ⟨na, nc, hn⟩ := own_shape H.net
  subst hn
  have c0 := H.slice
  go_enter Tryz.func36, Tryz.ntmps36
  go_wp2_with (first | (go_at_call 32; refine (within_any _ _ _ _).mono ?_; rintro e w' ⟨rfl, rfl⟩))
  go_ret
  exact ⟨rfl, rfl⟩

/-! ### send -/
/-- One word to the first k nodes, but for the one that says it, as long as there is room. -/
def sendTo (fr : Nat) (w : Wd) (net : List (Nat × Wd)) : Nat → List (Nat × Wd)
  | 0 => net
  | k + 1 => if k ≠ fr ∧ (sendTo fr w net k).length < 2000 then sendTo fr w net k ++ [(k, w)] else sendTo fr w net k
def sendAll (fr : Nat) (ws : List Wd) (net : List (Nat × Wd)) : List (Nat × Wd) := ws.foldl (fun m w => sendTo fr w m 4) net
theorem sendTo_len (fr : Nat) (w : Wd) (net : List (Nat × Wd)) (h : net.length ≤ 2000) : ∀ k, net.length ≤ (sendTo fr w net k).length ∧ (sendTo fr w net k).length ≤ 2000
  | 0 => ⟨Nat.le_refl _, h⟩
  | k + 1 => by
    have := sendTo_len fr w net h k
    unfold sendTo
    split
    · rw [List.length_append]; simp; omega
    · exact this
theorem sendAll_len (fr : Nat) : ∀ (ws : List Wd) (net : List (Nat × Wd)), net.length ≤ 2000 → net.length ≤ (sendAll fr ws net).length ∧ (sendAll fr ws net).length ≤ 2000
  | [], net, h => ⟨Nat.le_refl _, h⟩
  | w :: ws, net, h => by
    have h1 := sendTo_len fr w net h 4
    have h2 := sendAll_len fr ws (sendTo fr w net 4) h1.2
    exact ⟨Nat.le_trans h1.1 h2.1, h2.2⟩
theorem sendAll_succ (fr : Nat) (ws : List Wd) (net : List (Nat × Wd)) (k : Nat) (x : Wd) (hx : ws[k]? = some x) : sendAll fr (ws.take (k + 1)) net = sendTo fr x (sendAll fr (ws.take k) net) 4 := by
  unfold sendAll
  rw [List.take_add_one, hx, List.foldl_append]
  rfl

theorem info_le : ∃ i, Tryz.prog.info? 79 = some i ∧ i.zero = some (.agg #[.int .i64 0, .int .i64 0, .int .i64 0, .int .i64 0, .int .i64 0, .int .i64 0, .int .i64 0]) ∧ i.size = 7 ∧ i.bytes = 56 := by
  have h : (Tryz.prog.info? 79).map (fun i => (i.zero, i.size, i.bytes)) = some (some (.agg #[.int .i64 0, .int .i64 0, .int .i64 0, .int .i64 0, .int .i64 0, .int .i64 0, .int .i64 0]), 7, 56) := by kernel_rfl
  cases hq : Tryz.prog.info? 79 with
  | none => simp [hq] at h
  | some i =>
    simp [hq] at h
    exact ⟨i, rfl, h.1, h.2.1, h.2.2⟩

/-- What holds of a crowd as letters are put to it. -/
def SendAt (w : World) (g : Nat) (c : Cw) (q : Nat → Value) (nt : Value) (ad : Option Addr) (sc : Nat) (ws : List Wd) (net : List (Nat × Wd)) (W : World) : Prop :=
  ∃ nt', CwAt W g 62 { c with net := net } q nt' ∧ Touch g nt w W ∧ Next nt nt' w ∧ W.ownsRow 0 36 6 (.slice ad ws.length sc) ws.length (wdsCells ws)
theorem SendAt.keep {w W W' : World} {g : Nat} {c : Cw} {q : Nat → Value} {nt : Value} {ad : Option Addr} {sc : Nat} {ws : List Wd} {net : List (Nat × Wd)} (h : SendAt w g c q nt ad sc ws net W) (b : Below W.heap.size W W') : SendAt w g c q nt ad sc ws net W' := by
  obtain ⟨nt', h1, h2, h3, h4⟩ := h
  exact ⟨nt', h1.keep b, h2.trans (Touch.below b (nt := nt')) h3, h3, own_below h4 b⟩

/-- A row that grows is the same block, or a new one. -/
theorem append_next {P : Program} (w : World) (base : Nat) (t ty e : TypeId) (i : TypeInfo) (z : Value) (size bytes : Nat) (ht : P.underlying t = some (.slice e)) (hi : P.info? e = some i) (hz : i.zero = some z)
    (hsize : i.size = size) (hby : i.bytes = bytes) (hzs : z.cells.size = size) (hsz : 0 < size)
    (v : Value) (n : Nat) (xs : List Value) (hown : w.ownsRow base e size v n xs)
    (a : Addr) (m c : Nat) (news : List Value) (hl : news.length = m * size) (hnews : ∀ j u, news[j]? = some u → w.cell? (a.add j) = some u) (h1 : ∀ u ∈ news, u.oneCell' = true)
    (h63 : n + m ≤ maxLen) (hbytes : (n + m) * bytes ≤ 140737488355328) (v' : Value) (w' : World) (hr : (Builtin.append_ #[t, t] ty #[v, .slice (some a) m c]).run P w = .ok v' w') : Next v v' w := by
  rcases hown.2 with ⟨rfl, rfl⟩ | ⟨g, cap, cur, rfl, hbg, hg, hnc, hcm, hcs, htake⟩
  · have hx : xs = [] := List.eq_nil_of_length_eq_zero (by simpa using hown.1)
    subst hx
    obtain ⟨v2, w2, hr2, h2, _, _⟩ := run_append_own (P := P) w w.heap.size t ty e i z size bytes ht hi hz hsize hby hzs hsz (.slice none 0 0) 0 [] (World.ownsRow_nil _ _ _ _) a m c news hl hnews h1 h63 hbytes (Nat.le_refl _)
    rw [hr] at hr2
    injection hr2 with e1 _
    subst e1
    exact Or.inr fun k hk => (h2.lt k hk).1
  · subst hsize
    subst hby
    by_cases hroom : n + m ≤ cap
    · have hfit : n * i.size + news.length ≤ cur.size := by rw [hl, hcs, ← Nat.add_mul]; exact Nat.mul_le_mul_right _ hroom
      have hr2 := run_append_room (P := P) w t ty e i ht hi g n cap cur hg a m c news hl hnews h1 hroom hfit
      rw [hr] at hr2
      injection hr2 with e1 _
      subst e1
      exact Or.inl rfl
    · have holds : ∀ j u, xs[j]? = some u → w.cell? ((⟨g, 0, none⟩ : Addr).add j) = some u := hown.cells (g := g) rfl
      have hsmall : n + m ≤ 9223372036854775807 := by simp only [maxLen] at h63; omega
      have hr2 := run_append_grow (P := P) w t ty e i z ht hi hz ⟨g, 0, none⟩ n cap xs hown.1 holds a m c news hl hnews (by omega) (by omega) (growslice_fits (by omega) hbytes)
      rw [hr] at hr2
      injection hr2 with e1 _
      subst e1
      exact Or.inr fun k hk => by simp [Value.ownBlock] at hk; omega
theorem wpList_append_next {P : Program} {w : World} {ops : Array Oper} {rest : List Oper} {o : Oper} {a : Act} {Q : Exit → Act → World → Prop} (hgd : o.guard = none) (s x : Operand) (t : TypeId)
    (ho : o.op = .call { callee := .builtin .append, args := #[s, x], argTypes := #[t, t] })
    (base : Nat) (e : TypeId) (i : TypeInfo) (z : Value) (size bytes : Nat) (ht : P.underlying t = some (.slice e)) (hi : P.info? e = some i) (hz : i.zero = some z)
    (hsize : i.size = size) (hby : i.bytes = bytes) (hzs : z.cells.size = size) (hsz : 0 < size)
    (v : Value) (n : Nat) (xs : List Value) (hs : a.eval s = v) (hown : w.ownsRow base e size v n xs)
    (ad : Addr) (m c : Nat) (news : List Value) (hx : a.eval x = .slice (some ad) m c) (hl : news.length = m * size) (hnews : ∀ j u, news[j]? = some u → w.cell? (ad.add j) = some u) (h1 : ∀ u ∈ news, u.oneCell' = true)
    (h63 : n + m ≤ maxLen) (hbytes : (n + m) * bytes ≤ 140737488355328) (hbase : base ≤ w.heap.size)
    (h : ∀ v' w', w'.ownsRow base e size v' (n + m) (xs ++ news) → w.grownBy w' v.ownBlock → Next v v' w → wpList P ops Q rest (a.put o.dst v') w') : wpList P ops Q (o :: rest) a w :=
  wpList_plain hgd fun _ hK => by
    obtain ⟨v', w', hr, h2, h3, h4⟩ := run_append_own (P := P) w base t o.type e i z size bytes ht hi hz hsize hby hzs hsz v n xs hown ad m c news hl hnews h1 h63 hbytes hbase
    have hn := append_next w base t o.type e i z size bytes ht hi hz hsize hby hzs hsz v n xs hown ad m c news hl hnews h1 h63 hbytes v' w' hr
    unfold Oper.wp execOp
    simp only [ho, resolve, invoke, builtin, Sem.run_bind, Sem.run_pure, Result.andThen_ok, List.map_toArray, List.map_cons, List.map_nil, hs, hx, hr]
    exact hK _ _ (h v' w' h2 h3 hn)

set_option maxRecDepth 100000 in
set_option maxHeartbeats 4000000 in
theorem send_any {w : World} {g : Nat} {c : Cw} {q : Nat → Value} {nt : Value} (H : CwAt w g 62 c q nt) (hnet : c.net.length ≤ 2000) (fr : Nat) (ad : Option Addr) (sc base : Nat) (ws : List Wd)
    (hW : w.ownsRow base 36 6 (.slice ad ws.length sc) ws.length (wdsCells ws)) (hlen : ws.length < 100000) :
    Calls Tryz.prog 33 #[.pointer (some ⟨g, 0, none⟩), .int .i64 (fr : Int), .slice ad ws.length sc] w fun e w' => e = .returned (.int .i64 (((sendAll fr ws c.net).length : Int) - (c.net.length : Int))) ∧ SendAt w g c q nt ad sc ws (sendAll fr ws c.net) w' := by
  have H0 : SendAt w g c q nt ad sc ws (sendAll fr (ws.take 0) c.net) w := ⟨nt, by rw [List.take_zero]; exact H, Touch.refl _ _ _, Next.refl _ _, own_mono hW (Nat.zero_le _)⟩
  obtain ⟨na, nc, hn⟩ := own_shape H.net
  have c0 := H.slice
  rw [hn] at c0
  have HN : Hid (nt = .slice na c.net.length nc) := hn
  clear hn H hW
  go_enter Tryz.func33, Tryz.ntmps33
  go_wp2
  clear c0
  go_loopw [18] (fun i W => ∃ k : Nat, k ≤ ws.length ∧ i = .int .i64 (k : Int) ∧ SendAt w g c q nt ad sc ws (sendAll fr (ws.take k) c.net) W) (fun i _ => ws.length - (intOf i).toNat)
  case atStart => exact ⟨0, by omega, rfl, H0⟩
  case round =>
    clear H0
    rename World => w1
    obtain ⟨k, hk, rfl, H1⟩ := hrel
    have hl1 := sendAll_len fr (ws.take k) c.net hnet
    have HL : Hid (∀ x, ws[k]? = some x → sendAll fr (ws.take (k + 1)) c.net = sendTo fr x (sendAll fr (ws.take k) c.net) 4) := fun x hx => sendAll_succ fr ws c.net k x hx
    by_cases hlt : k < ws.length
    · have hx : ws[k]? = some ws[k] := List.getElem?_eq_getElem hlt
      replace HL : Hid (sendAll fr (ws.take (k + 1)) c.net = sendTo fr ws[k] (sendAll fr (ws.take k) c.net) 4) := HL.out _ hx
      generalize sendAll fr (ws.take k) c.net = m at H1 hl1 HL
      obtain ⟨b, o, cap, hv, a0, a1, a2, a3, a4, a5⟩ := (own_words H1.choose_spec.2.2.2).lies hx
      injection hv with hv1 hv2 hv3
      subst hv1 hv3
      generalize ws[k] = x at a0 a1 a2 a3 a4 a5 HL
      clear hx
      go_wp2
      go_loopw [22] (fun j W => ∃ i : Nat, i ≤ 4 ∧ j = .int .i64 (i : Int) ∧ SendAt w g c q nt (some ⟨b, o, none⟩) sc ws (sendTo fr x m i) W ∧ Blk W w1.heap.size #[.int .i64 x.k, .int .i64 x.f, .int .i64 x.h, .int .i64 x.r, .int .i64 x.v, .int .i64 x.x] 36) (fun j _ => 4 - (intOf j).toNat)
      case atStart => exact ⟨0, by omega, rfl, H1.keep (by go_grown), Blk.new w1 _ _⟩
      case round =>
        clear H1 a0 a1 a2 a3 a4 a5
        obtain ⟨i, hi, rfl, H2, D2⟩ := hrel
        have hl2 := sendTo_len fr x m hl1.2 i
        by_cases hi4 : i < 4
        · obtain ⟨nt', C2, T2, N2, O2⟩ := H2
          have hsh := own_shape C2.net
          obtain ⟨na', nc', hn'⟩ := hsh
          subst hn'
          have c1 := C2.slice
          have HS : Hid (sendTo fr x m (i + 1) = if i ≠ fr ∧ (sendTo fr x m i).length < 2000 then sendTo fr x m i ++ [(i, x)] else sendTo fr x m i) := rfl
          generalize sendTo fr x m i = net at *
          simp only at c1
          by_cases hfr : i = fr
          · have hne : ((i : Int) != (fr : Int)) = false := by simp; omega
            have HF : Hid (i = fr) := hfr
            clear hfr
            go_wp2
            go_roundw
            case rel => exact ⟨i + 1, by omega, by go_num, by rw [HS.out, if_neg (fun h => h.1 HF.out)]; exact ⟨_, C2, T2, N2, O2⟩, D2⟩
            case measure => simp [intOf]; omega
          · have hne : ((i : Int) != (fr : Int)) = true := by simp; omega
            have HF : Hid (¬ i = fr) := hfr
            clear hfr
            by_cases hroom : net.length < 2000
            · have hroom' : (net.length : Int) < 2000 := by omega
              obtain ⟨i0, hi0, hz0, hz1, hz2⟩ := info_le
              have hw6 := info_word
              have B2 := C2.blk
              go_wp2_with fail
              rename World => w2
              refine held_region (fun W => Blk W g (ccells (fun i => (c.nd i).ni (q i)) (.slice na' net.length nc') c.liar (c.acts : Int)) 62 ∧ Blk W w1.heap.size #[.int .i64 x.k, .int .i64 x.f, .int .i64 x.h, .int .i64 x.r, .int .i64 x.v, .int .i64 x.x] 36) [12] [(0, 0), (1, 0), (2, 0), (3, 0), (4, 1), (5, 0), (6, 1), (7, 0), (8, 2), (9, 2), (10, 0), (11, 0), (12, 2)] (by kernel_rfl) (by kernel_rfl) (by kernel_rfl) rfl (fun _ _ d _ _ h => by cases d <;> exact h) ⟨B2.drew, D2.drew⟩ ?_
              repeat (first
                | (refine ord_run0_ex rfl (by rfl) ?_
                   apply Exists.intro
                   refine ⟨fun w0 => ?_, ?_⟩
                   · go_simp; rfl
                   simp only [Act.put, List.setIfInBounds_toArray, List.set_cons_zero, List.set_cons_succ])
                | (refine ord_load rfl (by rfl) 36 _ rfl w1.heap.size 0 rfl #[.int .i64 x.k, .int .i64 x.f, .int .i64 x.h, .int .i64 x.r, .int .i64 x.v, .int .i64 x.x] _ (fun W H => H.2.range) Tryz.underlying36 rfl hw6 ?_; simp only [Act.put, List.setIfInBounds_toArray, List.set_cons_zero, List.set_cons_succ])
                | (refine ord_run1_ex rfl (by rfl) ?_
                   apply Exists.intro
                   refine ⟨fun w0 hC => ?_, ?_⟩
                   · have e0 := hC.1.cell 1128; rw [ccells_nt] at e0; clear hC; go_simp; rfl
                   simp only [Act.put, List.setIfInBounds_toArray, List.set_cons_zero, List.set_cons_succ]))
              refine ord_do rfl ?_
              go_wp2_with fail
              refine ⟨fun _ => ⟨(B2.alloc _).drew, (D2.alloc _).drew⟩, ?_⟩
              obtain ⟨W3, hW3⟩ : ∃ W3, W3 = (w2.alloc (.cells #[.int .i64 (i : Int), .int .i64 x.k, .int .i64 x.f, .int .i64 x.h, .int .i64 x.r, .int .i64 x.v, .int .i64 x.x] 79)).drew := ⟨_, rfl⟩
              have L3 : Below w2.heap.size w2 W3 := by rw [hW3]; exact below_drew' (by go_grown)
              have N3 : Blk W3 w2.heap.size #[.int .i64 (i : Int), .int .i64 x.k, .int .i64 x.f, .int .i64 x.h, .int .i64 x.r, .int .i64 x.v, .int .i64 x.x] 79 := by rw [hW3]; exact (Blk.new w2 _ _).drew
              have C3 := C2.keep L3
              have D3 := D2.below L3
              have O3 := own_below O2 L3
              have hnews : ∀ (j : Nat) (u : Value), (leCells (i, x))[j]? = some u → W3.cell? ((⟨w2.heap.size, 0, none⟩ : Addr).add j) = some u := fun j u hu => by
                rw [Addr.add_mid, Nat.zero_add, N3.cell j]
                simpa [leCells, wdCells] using hu
              have hone : ∀ u : Value, u ∈ leCells (i, x) → u.oneCell' = true := fun u hu => by
                simp only [leCells, wdCells, List.mem_cons, List.not_mem_nil, or_false] at hu
                rcases hu with rfl | rfl | rfl | rfl | rfl | rfl | rfl <;> rfl
              have h63 : net.length + 1 ≤ maxLen := by unfold maxLen; omega
              rw [← hW3]
              clear hW3 N3
              refine ord_do rfl ?_
              refine wpList_append_next rfl _ _ 52 rfl 0 79 i0 _ 7 56 Tryz.underlying52 hi0 hz0 hz1 hz2 rfl (by decide) (.slice na' net.length nc') net.length (lesCells net) rfl C3.net ⟨w2.heap.size, 0, none⟩ 1 1 (leCells (i, x)) rfl rfl hnews hone h63 (by omega) (by omega) ?_
              intro v' w4 hown hgrow N5
              obtain ⟨sb, sc', hv⟩ := own_shape hown
              subst hv
              have T4 : Touch g (.slice na' net.length nc') W3 w4 := Touch.grownN hgrow
              have B4 : Blk w4 g (ccells (fun i => (c.nd i).ni (q i)) (.slice na' net.length nc') c.liar (c.acts : Int)) 62 := blk_grown C3.blk hgrow (fun h => by
                obtain ⟨_, _, cur, hc⟩ := own_block C3.net g h.symm
                have hb := C3.blk
                unfold Blk at hb
                rw [hc] at hb
                injection hb with hb; injection hb with _ hb
                exact absurd hb (by decide))
              have D4 := T4.blk C3.blk C3.net D3 (by decide) (by decide)
              refine ⟨fun _ => ⟨B4, D4⟩, ?_⟩
              simp only [Act.put, List.setIfInBounds_toArray, List.set_cons_zero, List.set_cons_succ]
              repeat (first
                | (refine ord_run0_ex rfl (by rfl) ?_
                   apply Exists.intro
                   refine ⟨fun w0 => ?_, ?_⟩
                   · go_simp; rfl
                   simp only [Act.put, List.setIfInBounds_toArray, List.set_cons_zero, List.set_cons_succ]))
              have e4 := B4.cell 1128
              have f4 := B4.free 1128
              rw [ccells_nt] at e4
              refine ord_do rfl ?_
              go_wp2_with fail
              refine ⟨fun hc => absurd hc (by decide), ?_⟩
              show wpOrd _ _ _ _ _ [] _ _ _
              unfold wpOrd
              go_wp2
              go_roundw
              case measure => simp [intOf]; omega
              case rel =>
                have B5 := B4.setCell 1128 (.slice sb (net.length + 1) sc')
                rw [ccells_set_nt] at B5
                have T5 : Touch g (.slice na' net.length nc') W3 (w4.setCell ⟨g, 1128, none⟩ (.slice sb (net.length + 1) sc')) := T4.trans (Touch.grownB (grown_setCell w4 g 1128 _)) (Next.refl _ _)
                have D5 := T5.blk C3.blk C3.net D3 (by decide) (by decide)
                have hw : lesCells (net ++ [(i, x)]) = lesCells net ++ leCells (i, x) := by simp [lesCells]
                have hn5 : (w4.setCell ⟨g, 1128, none⟩ (.slice sb (net.length + 1) sc')).ownsRow 0 79 7 (.slice sb (net.length + 1) sc') (net.length + 1) (lesCells net ++ leCells (i, x)) := hown.kept (grown_setCell w4 g 1128 _) (Or.inr (fun h => by
                  obtain ⟨_, _, cur, hc⟩ := own_block hown g h
                  unfold Blk at B4
                  rw [hc] at B4
                  injection B4 with B4; injection B4 with _ B4
                  exact absurd B4 (by decide)))
                refine ⟨i + 1, by omega, by go_num, ?_, D5⟩
                rw [HS.out, if_pos ⟨HF.out, hroom⟩]
                refine ⟨.slice sb (net.length + 1) sc', ⟨B5, fun j hj => T5.own C3.blk C3.net (C3.que j hj) (by decide) (by decide), ?_⟩, ?_, ?_, T5.own C3.blk C3.net O3 (by decide) (by decide)⟩
                · show World.ownsRow _ _ _ _ _ (net ++ [(i, x)]).length (lesCells (net ++ [(i, x)]))
                  rw [hw, List.length_append]
                  exact hn5
                · exact (T2.trans (Touch.below L3) N2).trans T5 N2
                · exact N2.trans N5 (Nat.le_trans T2.size L3.size)
            · have hroom' : ¬ (net.length : Int) < 2000 := by omega
              go_wp2
              go_roundw
              case rel => exact ⟨i + 1, by omega, by go_num, by rw [HS.out, if_neg (fun h => hroom h.2)]; exact ⟨_, C2, T2, N2, O2⟩, D2⟩
              case measure => simp [intOf]; omega
        · have hi5 : Hid (i = 4) := show i = 4 by omega
          go_wp2
          go_roundw
          case rel => exact ⟨k + 1, by omega, by go_num, by rw [HL.out, ← hi5.out]; exact H2⟩
          case measure => simp [intOf]; omega
    · have HK : Hid (sendAll fr (ws.take k) c.net = sendAll fr ws c.net) := show _ = _ by rw [List.take_of_length_le (by omega)]
      clear HL
      generalize sendAll fr (ws.take k) c.net = m at *
      obtain ⟨nt', C2, T2, N2, O2⟩ := H1
      obtain ⟨na', nc', hn'⟩ := own_shape C2.net
      subst hn'
      have c1 := C2.slice
      simp only at c1
      go_wp2
      go_ret
      rw [← HK.out]
      exact ⟨rfl, _, C2, T2, N2, O2⟩
end Go.Proofs.YtmmgaonlmpajbacGreat
