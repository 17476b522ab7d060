/-
  The landed package crowd: turn, the one way in which a node changes.
-/
import Derived.Test.YtmmgaonlmpajbacGreatCMove
namespace Go.Proofs.YtmmgaonlmpajbacGreat
open Go.RowKit

theorem result_rep {fn : Func} {p : Tmp} (h : fn.results = #[.cell p 33]) (tmps : Array Value) (W : World) (g : Nat) (code n : Int) (f : Nat → Int) {t : TypeId}
    (hp : tmps.getD p undef = .pointer (some ⟨g, 0, none⟩)) (B : Blk W g (rcells code n f) t) : (results fn tmps).run Tryz.prog W = .ok (.agg (rcells code n f)) W := by
  have hp' : tmps[p]?.getD undef = .pointer (some ⟨g, 0, none⟩) := by simpa using hp
  have he := run_loadVar_mid W g 0 33 (rcells code n f).toList _ B.range Tryz.underlying33 rfl (by show _ = some 6; kernel_rfl)
  have he' : Sem.run Tryz.prog (loadVar 33 ⟨g, 0, none⟩) W = .ok (.agg (rcells code n f)) W := by simpa using he
  simp [results, h, hp', asAddr, he']
theorem info_rep (code n : Int) (f : Nat → Int) : (Tryz.prog.info? 33).map (·.size) = some (rcells code n f).size := by show _ = some 6; kernel_rfl
theorem one_rep (code n : Int) (f : Nat → Int) : (rcells code n f).all (·.oneCell') = true := by show _ = _; kernel_rfl

/-- The crowd behind what a node did. -/
def Cw.did (c : Cw) (who : Nat) (a : At) : Cw := { c with nd := fun k => if k = who then a.n else c.nd k, net := sendAll who a.words c.net }
/-- What is answered, and where the crowd lies then. -/
def Did (w : World) (g : Nat) (nt : Value) (c' : Cw) (rep : Array Value) (e : Ending) (w' : World) : Prop :=
  e = .returned (.agg rep) ∧ ∃ q' nt', CwAt w' g 62 c' q' nt' ∧ Touch g nt w w' ∧ Next nt nt' w

/-- The block of a reply's cells as it is made. -/
abbrev zR : Array Value := #[.int .i64 0, .int .i64 0, .int .i64 0, .int .i64 0, .int .i64 0, .int .i64 0]

set_option maxRecDepth 100000 in
set_option maxHeartbeats 2000000 in
theorem turn_range (who : Int) (hw : win who 0 3 = false) (g : Nat) (f : Value) (w : World) :
    Calls Tryz.prog 17 #[.pointer (some ⟨g, 0, none⟩), .int .i64 who, f] w fun e w' => e = .returned (.agg (refused 2)) ∧ Below w.heap.size w w' := by
  have hi := info_rep 2 0 fun _ => 0
  have ho := one_rep 2 0 fun _ => 0
  have Z : Blk (w.alloc (.cells zR 33)) w.heap.size zR 33 := Blk.new w _ _
  have L0 : Below w.heap.size w (w.alloc (.cells zR 33)) := by go_grown
  go_enter Tryz.func17, Tryz.ntmps17
  go_upto_region 1 with fail
  generalize (w.alloc (.cells zR 33)) = w0 at Z L0 ⊢
  go_wp2_with (first
    | (go_at_call 13; refine (bnode_any _ _).mono ?_; rw [hw]; rintro e w' ⟨rfl, hw'⟩; obtain rfl := hw'.symm)
    | (go_at_call 16; refine (crefuse_any 2 _).mono ?_; rintro e w2 ⟨rfl, L2⟩; have Z2 := Z.below L2)
    | (refine wpList_store_blk rfl 33 _ _ rfl w.heap.size zR (refused 2) 33 rfl rfl Z2 rfl hi ho ?_; rintro w3 B3 K3))
  exact bodyPost_ret (result_rep rfl _ _ w.heap.size _ _ _ rfl B3) rfl ⟨rfl, K3.bel _ _ (Nat.le_refl _) (bel_trans L0 L2)⟩

set_option maxRecDepth 100000 in
set_option maxHeartbeats 4000000 in
theorem turn_submit_no {w : World} {g : Nat} {c : Cw} {q : Nat → Value} {nt : Value} (H : CwAt w g 62 c q nt) (who : Nat) (hw : who < 4) (b : Nat) (y : Int) (hb : w.cell? ⟨b, 0, none⟩ = some (.int .i64 y)) (code : Int) (hne : code ≠ 0)
    (hcon : ∀ W, Ints W (q who) (c.nd who).queue → Calls Tryz.prog 35 #[.agg ((c.nd who).ni (q who)).cells, .int .i64 (who : Int), .int .i64 y] W (Res W ((c.nd who).ni (q who)) (c.nd who).queue [] code)) :
    Calls Tryz.prog 17 #[.pointer (some ⟨g, 0, none⟩), .int .i64 (who : Int), .func (.func 34) #[] #[.pointer (some ⟨b, 0, none⟩)]] w fun e w' => e = .returned (.agg (refused code)) ∧ Below w.heap.size w w' := by
  have hc2 : (code != 0) = true := by simpa using hne
  have hi := info_rep code 0 fun _ => 0
  have ho := one_rep code 0 fun _ => 0
  clear hne
  have hz := run_zeroN
  have hiN := infoN ((c.nd who).ni (q who))
  have Z : Blk (w.alloc (.cells zR 33)) w.heap.size zR 33 := Blk.new w _ _
  have L0 : Below w.heap.size w (w.alloc (.cells zR 33)) := by go_grown
  have hsz : (w.alloc (.cells zR 33)).heap.size = w.heap.size + 1 := by simp
  have H0 := H.keep L0
  have hb0 := cell_on hb L0
  have hwin : win (who : Int) 0 3 = true := win_iff.2 ⟨by omega, by omega⟩
  have hlt : (who : Int) < 4 := by omega
  have HC : ∀ W, Ints W ((c.nd who).ni (q who)).q (c.nd who).queue → Calls Tryz.prog 35 #[.agg ((c.nd who).ni (q who)).cells, .int .i64 (who : Int), .int .i64 y] W (Res W ((c.nd who).ni (q who)) (c.nd who).queue [] code) := fun W hW => hcon W hW
  clear hcon H hb
  go_enter Tryz.func17, Tryz.ntmps17
  go_upto_region 1 with fail
  generalize (w.alloc (.cells zR 33)) = w0 at Z L0 hsz H0 hb0 ⊢
  have hq0 : Ints w0 ((c.nd who).ni (q who)).q (c.nd who).queue := H0.ints who hw
  have hcall := submits1_any _ _ _ y _ _ _ _ HC _ hq0 b hb0
  have hr := H0.node who hw
  clear HC hq0
  go_wp2_with (first
    | (go_at_call 13; refine (bnode_any _ _).mono ?_; rw [hwin]; rintro e w' ⟨rfl, hw'⟩; obtain rfl := hw'.symm)
    | (refine wpList_load_part (by rfl) 50 _ rfl g (who * 282) (by first | rfl | simp) ((c.nd who).ni (q who)).cells _ hr Tryz.underlying50 rfl hiN ?_)
    | (go_at_call 34; refine hcall.mono ?_; clear hcall; rintro e w2 ⟨q', sa, sc, rfl, hown, hsaid, L2⟩; have hi5 := infoN (((c.nd who).ni (q who)).setQ q'); have Z2 := (Z.below L2).alloc (.cells zN.cells 50); have N2 : Blk (w2.alloc (.cells zN.cells 50)) w2.heap.size zN.cells 50 := Blk.new w2 _ _; have La : Below w2.heap.size w2 (w2.alloc (.cells zN.cells 50)) := (by go_grown); have hlt2 := Z.lt; have hlt3 := L2.size)
    | (refine wpList_store_blk rfl 50 _ _ rfl w2.heap.size zN.cells (((c.nd who).ni (q who)).setQ q').cells 50 rfl rfl N2 (by rw [ncells_size, ncells_size]) hi5 (one_cellN _ (own_one hown)) ?_; rintro w3 B3 K3; have L3 := K3.bel _ _ (Nat.le_refl _) La; have Z3 := (Z.below L2).below L3)
    | (go_at_call 16; refine (crefuse_any code _).mono ?_; rintro e w4 ⟨rfl, L4⟩; have Z4 := Z3.below L4)
    | (refine wpList_store_blk rfl 33 _ _ rfl w.heap.size zR (refused code) 33 rfl rfl Z4 rfl hi ho ?_; rintro w5 B5 K5))
  exact bodyPost_ret (result_rep rfl _ _ w.heap.size _ _ _ rfl B5) rfl ⟨rfl, K5.bel _ _ (Nat.le_refl _) (bel_trans (bel_trans (bel_trans L0 L2) L3) L4)⟩

set_option maxRecDepth 100000 in
set_option maxHeartbeats 4000000 in
theorem turn_submit_yes {w : World} {g : Nat} {c : Cw} {q : Nat → Value} {nt : Value} (H : CwAt w g 62 c q nt) (who : Nat) (hw : who < 4) (b : Nat) (y : Int) (hb : w.cell? ⟨b, 0, none⟩ = some (.int .i64 y)) (a : At) (hlen : a.words.length ≤ 1000) (hnet : c.net.length ≤ 2000)
    (hcon : ∀ W, Ints W (q who) (c.nd who).queue → Calls Tryz.prog 35 #[.agg ((c.nd who).ni (q who)).cells, .int .i64 (who : Int), .int .i64 y] W (Res W (a.n.ni (.slice none 0 0)) a.n.queue a.words 0)) :
    Calls Tryz.prog 17 #[.pointer (some ⟨g, 0, none⟩), .int .i64 (who : Int), .func (.func 34) #[] #[.pointer (some ⟨b, 0, none⟩)]] w (Did w g nt (c.did who a) (rcells 0 (((sendAll who a.words c.net).length : Int) - (c.net.length : Int)) fun _ => 0)) := by
  have hi := info_rep 0 (((sendAll who a.words c.net).length : Int) - (c.net.length : Int)) fun _ => 0
  have ho := one_rep 0 (((sendAll who a.words c.net).length : Int) - (c.net.length : Int)) fun _ => 0
  have hz := run_zeroN
  have hiN := infoN ((c.nd who).ni (q who))
  have Z : Blk (w.alloc (.cells zR 33)) w.heap.size zR 33 := Blk.new w _ _
  have L0 : Below w.heap.size w (w.alloc (.cells zR 33)) := by go_grown
  have hsz : (w.alloc (.cells zR 33)).heap.size = w.heap.size + 1 := by simp
  have H0 := H.keep L0
  have hb0 := cell_on hb L0
  have hwin : win (who : Int) 0 3 = true := win_iff.2 ⟨by omega, by omega⟩
  have hlt : (who : Int) < 4 := by omega
  have HC : ∀ W, Ints W ((c.nd who).ni (q who)).q (c.nd who).queue → Calls Tryz.prog 35 #[.agg ((c.nd who).ni (q who)).cells, .int .i64 (who : Int), .int .i64 y] W (Res W (a.n.ni (.slice none 0 0)) a.n.queue a.words 0) := fun W hW => hcon W hW
  clear hcon H hb
  go_enter Tryz.func17, Tryz.ntmps17
  go_upto_region 1 with fail
  generalize (w.alloc (.cells zR 33)) = w0 at Z L0 hsz H0 hb0 ⊢
  have hq0 : Ints w0 ((c.nd who).ni (q who)).q (c.nd who).queue := H0.ints who hw
  have hcall := submits1_any _ _ _ y _ _ _ _ HC _ hq0 b hb0
  have hr := H0.node who hw
  clear HC hq0
  go_upto_region 6 with (first
    | (go_at_call 13; refine (bnode_any _ _).mono ?_; rw [hwin]; rintro e w' ⟨rfl, hw'⟩; obtain rfl := hw'.symm)
    | (refine wpList_load_part (by rfl) 50 _ rfl g (who * 282) (by first | rfl | simp) ((c.nd who).ni (q who)).cells _ hr Tryz.underlying50 rfl hiN ?_)
    | (go_at_call 34; refine hcall.mono ?_; clear hcall; rintro e w2 ⟨q', sa, sc, rfl, hown, hsaid, L2⟩; have hi5 := infoN ((a.n.ni (.slice none 0 0)).setQ q'); have Z2 := (Z.below L2).alloc (.cells zN.cells 50); have N2 : Blk (w2.alloc (.cells zN.cells 50)) w2.heap.size zN.cells 50 := Blk.new w2 _ _; have La : Below w2.heap.size w2 (w2.alloc (.cells zN.cells 50)) := (by go_grown); have hlt2 := Z.lt; have hlt3 := L2.size)
    | (refine wpList_store_blk rfl 50 _ _ rfl w2.heap.size zN.cells ((a.n.ni (.slice none 0 0)).setQ q').cells 50 rfl rfl N2 (by rw [ncells_size, ncells_size]) hi5 (one_cellN _ (own_one hown)) ?_; rintro w3 B3 K3; have L3 := K3.bel _ _ (Nat.le_refl _) La; have Z3 := (Z.below L2).below L3; have H3 := (H0.keep L2).keep L3; have hown3 := own_below hown L3; have hsaid3 := own_below hsaid L3))
  clear hown hsaid hr N2 Z2 K3 La
  refine held_region (fun W => Blk W w2.heap.size ((a.n.ni (.slice none 0 0)).setQ q').cells 50) [] [(0, 0), (1, 0), (2, 1), (3, 0), (4, 0), (5, 0), (6, 2)] (by kernel_rfl) (by kernel_rfl) (by kernel_rfl) rfl (fun _ _ d _ _ h => by cases d <;> exact h) B3.drew ?_
  repeat (first
    | (refine ord_load rfl (by rfl) 50 _ rfl w2.heap.size 0 rfl ((a.n.ni (.slice none 0 0)).setQ q').cells _ (fun W H => H.range) Tryz.underlying50 rfl hi5 ?_; simp only [Act.put, List.setIfInBounds_toArray, List.set_cons_zero, List.set_cons_succ])
    | (refine ord_run0_ex rfl (by rfl) ?_
       apply Exists.intro
       refine ⟨fun w0 => ?_, ?_⟩
       · go_simp; rfl
       simp only [Act.put, List.setIfInBounds_toArray, List.set_cons_zero, List.set_cons_succ]))
  refine ord_do rfl ?_
  refine wpList_store_node rfl 50 _ _ rfl g who (fun i => (c.nd i).ni (q i)) nt c.liar (c.acts : Int) ((a.n.ni (.slice none 0 0)).setQ q') 62 (by first | rfl | simp) rfl hw H3.blk.drew hi5 (one_cellN _ (own_one hown3)) ?_
  rintro w4 B4 G4 hs4
  have hgw : g < w2.heap.size := by have := H0.blk.lt; omega
  refine ⟨fun _ => B3.drew.grown G4 (by omega), ?_⟩
  simp only [Act.put]
  show wpOrd _ _ _ _ _ [] _ _ _
  unfold wpOrd
  have T4 : Touch g nt w3 w4 := ⟨G4.os, G4.tape, G4.output, G4.size, fun k hk hg _ => G4.block k hk (fun e => hg (Option.some.inj e))⟩
  have C4 := CwAt.put H3.drew G4 who w0.heap.size a.n q' B4 hown3 (by have := H0.blk.lt; omega) (by decide) (by decide)
  have S4 := T4.own H3.blk H3.net hsaid3 (by decide) (by decide)
  have Z4 := T4.blk H3.blk H3.net Z3 (by decide) (by decide)
  have TT : Touch g nt w w4 := (Touch.below (nt := nt) (bel_trans (bel_trans L0 L2) L3)).trans T4 (Next.refl _ _)
  clear B4 G4 hs4 hown3 hsaid3 Z3 H3 B3 H0 Z
  go_wp2_with (first
    | (go_at_call 33; refine (send_any C4 hnet who sa sc w0.heap.size a.words S4 (by omega)).mono ?_; rintro e w5 ⟨rfl, nt5, C5, T5, N5, O5⟩; have Z5 := T5.blk C4.blk C4.net Z4 (by decide) (by decide))
    | (refine wpList_store_blk rfl 33 _ _ rfl w.heap.size zR (rcells 0 (((sendAll who a.words c.net).length : Int) - (c.net.length : Int)) fun _ => 0) 33 rfl rfl Z5 rfl hi ho ?_; rintro w6 B6 K6))
  exact bodyPost_ret (result_rep rfl _ _ w.heap.size _ _ _ rfl B6) rfl ⟨rfl, _, nt5, C5.kept K6 Z5 (by decide) (by decide) (by decide), (TT.trans T5 (Next.refl _ _)).more (K6.bel _ _ (Nat.le_refl _) (Below.refl _ _)) (Nat.le_refl _), (Next.refl nt w).trans N5 TT.size⟩

set_option maxRecDepth 100000 in
set_option maxHeartbeats 4000000 in
theorem turn_hear_no {w : World} {g : Nat} {c : Cw} {q : Nat → Value} {nt : Value} (H : CwAt w g 62 c q nt) (who : Nat) (hw : who < 4) (b : Nat) (v : Wd) (hb : Blk w b (wdArr v) 36) (code : Int) (hne : code ≠ 0)
    (hcon : ∀ W, Ints W (q who) (c.nd who).queue → Calls Tryz.prog 56 #[.agg ((c.nd who).ni (q who)).cells, .int .i64 (who : Int), .agg (wdArr v)] W (Res W ((c.nd who).ni (q who)) (c.nd who).queue [] code)) :
    Calls Tryz.prog 17 #[.pointer (some ⟨g, 0, none⟩), .int .i64 (who : Int), .func (.func 55) #[] #[.pointer (some ⟨b, 0, none⟩)]] w fun e w' => e = .returned (.agg (refused code)) ∧ Below w.heap.size w w' := by
  have hc2 : (code != 0) = true := by simpa using hne
  have hi := info_rep code 0 fun _ => 0
  have ho := one_rep code 0 fun _ => 0
  clear hne
  have hz := run_zeroN
  have hiN := infoN ((c.nd who).ni (q who))
  have Z : Blk (w.alloc (.cells zR 33)) w.heap.size zR 33 := Blk.new w _ _
  have L0 : Below w.heap.size w (w.alloc (.cells zR 33)) := by go_grown
  have hsz : (w.alloc (.cells zR 33)).heap.size = w.heap.size + 1 := by simp
  have H0 := H.keep L0
  have hb0 := hb.below L0
  have hwin : win (who : Int) 0 3 = true := win_iff.2 ⟨by omega, by omega⟩
  have hlt : (who : Int) < 4 := by omega
  have HC : ∀ W, Ints W ((c.nd who).ni (q who)).q (c.nd who).queue → Calls Tryz.prog 56 #[.agg ((c.nd who).ni (q who)).cells, .int .i64 (who : Int), .agg (wdArr v)] W (Res W ((c.nd who).ni (q who)) (c.nd who).queue [] code) := fun W hW => hcon W hW
  clear hcon H hb
  go_enter Tryz.func17, Tryz.ntmps17
  go_upto_region 1 with fail
  generalize (w.alloc (.cells zR 33)) = w0 at Z L0 hsz H0 hb0 ⊢
  have hq0 : Ints w0 ((c.nd who).ni (q who)).q (c.nd who).queue := H0.ints who hw
  have hcall := hears1_any _ _ _ v _ _ _ _ HC _ hq0 b hb0
  have hr := H0.node who hw
  clear HC hq0
  go_wp2_with (first
    | (go_at_call 13; refine (bnode_any _ _).mono ?_; rw [hwin]; rintro e w' ⟨rfl, hw'⟩; obtain rfl := hw'.symm)
    | (refine wpList_load_part (by rfl) 50 _ rfl g (who * 282) (by first | rfl | simp) ((c.nd who).ni (q who)).cells _ hr Tryz.underlying50 rfl hiN ?_)
    | (go_at_call 55; refine hcall.mono ?_; clear hcall; rintro e w2 ⟨q', sa, sc, rfl, hown, hsaid, L2⟩; have hi5 := infoN (((c.nd who).ni (q who)).setQ q'); have Z2 := (Z.below L2).alloc (.cells zN.cells 50); have N2 : Blk (w2.alloc (.cells zN.cells 50)) w2.heap.size zN.cells 50 := Blk.new w2 _ _; have La : Below w2.heap.size w2 (w2.alloc (.cells zN.cells 50)) := (by go_grown); have hlt2 := Z.lt; have hlt3 := L2.size)
    | (refine wpList_store_blk rfl 50 _ _ rfl w2.heap.size zN.cells (((c.nd who).ni (q who)).setQ q').cells 50 rfl rfl N2 (by rw [ncells_size, ncells_size]) hi5 (one_cellN _ (own_one hown)) ?_; rintro w3 B3 K3; have L3 := K3.bel _ _ (Nat.le_refl _) La; have Z3 := (Z.below L2).below L3)
    | (go_at_call 16; refine (crefuse_any code _).mono ?_; rintro e w4 ⟨rfl, L4⟩; have Z4 := Z3.below L4)
    | (refine wpList_store_blk rfl 33 _ _ rfl w.heap.size zR (refused code) 33 rfl rfl Z4 rfl hi ho ?_; rintro w5 B5 K5))
  exact bodyPost_ret (result_rep rfl _ _ w.heap.size _ _ _ rfl B5) rfl ⟨rfl, K5.bel _ _ (Nat.le_refl _) (bel_trans (bel_trans (bel_trans L0 L2) L3) L4)⟩

set_option maxRecDepth 100000 in
set_option maxHeartbeats 4000000 in
theorem turn_hear_yes {w : World} {g : Nat} {c : Cw} {q : Nat → Value} {nt : Value} (H : CwAt w g 62 c q nt) (who : Nat) (hw : who < 4) (b : Nat) (v : Wd) (hb : Blk w b (wdArr v) 36) (a : At) (hlen : a.words.length ≤ 1000) (hnet : c.net.length ≤ 2000)
    (hcon : ∀ W, Ints W (q who) (c.nd who).queue → Calls Tryz.prog 56 #[.agg ((c.nd who).ni (q who)).cells, .int .i64 (who : Int), .agg (wdArr v)] W (Res W (a.n.ni (.slice none 0 0)) a.n.queue a.words 0)) :
    Calls Tryz.prog 17 #[.pointer (some ⟨g, 0, none⟩), .int .i64 (who : Int), .func (.func 55) #[] #[.pointer (some ⟨b, 0, none⟩)]] w (Did w g nt (c.did who a) (rcells 0 (((sendAll who a.words c.net).length : Int) - (c.net.length : Int)) fun _ => 0)) := by
  have hi := info_rep 0 (((sendAll who a.words c.net).length : Int) - (c.net.length : Int)) fun _ => 0
  have ho := one_rep 0 (((sendAll who a.words c.net).length : Int) - (c.net.length : Int)) fun _ => 0
  have hz := run_zeroN
  have hiN := infoN ((c.nd who).ni (q who))
  have Z : Blk (w.alloc (.cells zR 33)) w.heap.size zR 33 := Blk.new w _ _
  have L0 : Below w.heap.size w (w.alloc (.cells zR 33)) := by go_grown
  have hsz : (w.alloc (.cells zR 33)).heap.size = w.heap.size + 1 := by simp
  have H0 := H.keep L0
  have hb0 := hb.below L0
  have hwin : win (who : Int) 0 3 = true := win_iff.2 ⟨by omega, by omega⟩
  have hlt : (who : Int) < 4 := by omega
  have HC : ∀ W, Ints W ((c.nd who).ni (q who)).q (c.nd who).queue → Calls Tryz.prog 56 #[.agg ((c.nd who).ni (q who)).cells, .int .i64 (who : Int), .agg (wdArr v)] W (Res W (a.n.ni (.slice none 0 0)) a.n.queue a.words 0) := fun W hW => hcon W hW
  clear hcon H hb
  go_enter Tryz.func17, Tryz.ntmps17
  go_upto_region 1 with fail
  generalize (w.alloc (.cells zR 33)) = w0 at Z L0 hsz H0 hb0 ⊢
  have hq0 : Ints w0 ((c.nd who).ni (q who)).q (c.nd who).queue := H0.ints who hw
  have hcall := hears1_any _ _ _ v _ _ _ _ HC _ hq0 b hb0
  have hr := H0.node who hw
  clear HC hq0
  go_upto_region 6 with (first
    | (go_at_call 13; refine (bnode_any _ _).mono ?_; rw [hwin]; rintro e w' ⟨rfl, hw'⟩; obtain rfl := hw'.symm)
    | (refine wpList_load_part (by rfl) 50 _ rfl g (who * 282) (by first | rfl | simp) ((c.nd who).ni (q who)).cells _ hr Tryz.underlying50 rfl hiN ?_)
    | (go_at_call 55; refine hcall.mono ?_; clear hcall; rintro e w2 ⟨q', sa, sc, rfl, hown, hsaid, L2⟩; have hi5 := infoN ((a.n.ni (.slice none 0 0)).setQ q'); have Z2 := (Z.below L2).alloc (.cells zN.cells 50); have N2 : Blk (w2.alloc (.cells zN.cells 50)) w2.heap.size zN.cells 50 := Blk.new w2 _ _; have La : Below w2.heap.size w2 (w2.alloc (.cells zN.cells 50)) := (by go_grown); have hlt2 := Z.lt; have hlt3 := L2.size)
    | (refine wpList_store_blk rfl 50 _ _ rfl w2.heap.size zN.cells ((a.n.ni (.slice none 0 0)).setQ q').cells 50 rfl rfl N2 (by rw [ncells_size, ncells_size]) hi5 (one_cellN _ (own_one hown)) ?_; rintro w3 B3 K3; have L3 := K3.bel _ _ (Nat.le_refl _) La; have Z3 := (Z.below L2).below L3; have H3 := (H0.keep L2).keep L3; have hown3 := own_below hown L3; have hsaid3 := own_below hsaid L3))
  clear hown hsaid hr N2 Z2 K3 La
  refine held_region (fun W => Blk W w2.heap.size ((a.n.ni (.slice none 0 0)).setQ q').cells 50) [] [(0, 0), (1, 0), (2, 1), (3, 0), (4, 0), (5, 0), (6, 2)] (by kernel_rfl) (by kernel_rfl) (by kernel_rfl) rfl (fun _ _ d _ _ h => by cases d <;> exact h) B3.drew ?_
  repeat (first
    | (refine ord_load rfl (by rfl) 50 _ rfl w2.heap.size 0 rfl ((a.n.ni (.slice none 0 0)).setQ q').cells _ (fun W H => H.range) Tryz.underlying50 rfl hi5 ?_; simp only [Act.put, List.setIfInBounds_toArray, List.set_cons_zero, List.set_cons_succ])
    | (refine ord_run0_ex rfl (by rfl) ?_
       apply Exists.intro
       refine ⟨fun w0 => ?_, ?_⟩
       · go_simp; rfl
       simp only [Act.put, List.setIfInBounds_toArray, List.set_cons_zero, List.set_cons_succ]))
  refine ord_do rfl ?_
  refine wpList_store_node rfl 50 _ _ rfl g who (fun i => (c.nd i).ni (q i)) nt c.liar (c.acts : Int) ((a.n.ni (.slice none 0 0)).setQ q') 62 (by first | rfl | simp) rfl hw H3.blk.drew hi5 (one_cellN _ (own_one hown3)) ?_
  rintro w4 B4 G4 hs4
  have hgw : g < w2.heap.size := by have := H0.blk.lt; omega
  refine ⟨fun _ => B3.drew.grown G4 (by omega), ?_⟩
  simp only [Act.put]
  show wpOrd _ _ _ _ _ [] _ _ _
  unfold wpOrd
  have T4 : Touch g nt w3 w4 := ⟨G4.os, G4.tape, G4.output, G4.size, fun k hk hg _ => G4.block k hk (fun e => hg (Option.some.inj e))⟩
  have C4 := CwAt.put H3.drew G4 who w0.heap.size a.n q' B4 hown3 (by have := H0.blk.lt; omega) (by decide) (by decide)
  have S4 := T4.own H3.blk H3.net hsaid3 (by decide) (by decide)
  have Z4 := T4.blk H3.blk H3.net Z3 (by decide) (by decide)
  have TT : Touch g nt w w4 := (Touch.below (nt := nt) (bel_trans (bel_trans L0 L2) L3)).trans T4 (Next.refl _ _)
  clear B4 G4 hs4 hown3 hsaid3 Z3 H3 B3 H0 Z
  go_wp2_with (first
    | (go_at_call 33; refine (send_any C4 hnet who sa sc w0.heap.size a.words S4 (by omega)).mono ?_; rintro e w5 ⟨rfl, nt5, C5, T5, N5, O5⟩; have Z5 := T5.blk C4.blk C4.net Z4 (by decide) (by decide))
    | (refine wpList_store_blk rfl 33 _ _ rfl w.heap.size zR (rcells 0 (((sendAll who a.words c.net).length : Int) - (c.net.length : Int)) fun _ => 0) 33 rfl rfl Z5 rfl hi ho ?_; rintro w6 B6 K6))
  exact bodyPost_ret (result_rep rfl _ _ w.heap.size _ _ _ rfl B6) rfl ⟨rfl, _, nt5, C5.kept K6 Z5 (by decide) (by decide) (by decide), (TT.trans T5 (Next.refl _ _)).more (K6.bel _ _ (Nat.le_refl _) (Below.refl _ _)) (Nat.le_refl _), (Next.refl nt w).trans N5 TT.size⟩

set_option maxRecDepth 100000 in
set_option maxHeartbeats 4000000 in
theorem turn_time_no {w : World} {g : Nat} {c : Cw} {q : Nat → Value} {nt : Value} (H : CwAt w g 62 c q nt) (who : Nat) (hw : who < 4)  (code : Int) (hne : code ≠ 0)
    (hcon : ∀ W, Ints W (q who) (c.nd who).queue → Calls Tryz.prog 21 #[.agg ((c.nd who).ni (q who)).cells, .int .i64 (who : Int)] W (Res W ((c.nd who).ni (q who)) (c.nd who).queue [] code)) :
    Calls Tryz.prog 17 #[.pointer (some ⟨g, 0, none⟩), .int .i64 (who : Int), .func (.func 21) #[] #[]] w fun e w' => e = .returned (.agg (refused code)) ∧ Below w.heap.size w w' := by
  have hc2 : (code != 0) = true := by simpa using hne
  have hi := info_rep code 0 fun _ => 0
  have ho := one_rep code 0 fun _ => 0
  clear hne
  have hz := run_zeroN
  have hiN := infoN ((c.nd who).ni (q who))
  have Z : Blk (w.alloc (.cells zR 33)) w.heap.size zR 33 := Blk.new w _ _
  have L0 : Below w.heap.size w (w.alloc (.cells zR 33)) := by go_grown
  have hsz : (w.alloc (.cells zR 33)).heap.size = w.heap.size + 1 := by simp
  have H0 := H.keep L0
  have hwin : win (who : Int) 0 3 = true := win_iff.2 ⟨by omega, by omega⟩
  have hlt : (who : Int) < 4 := by omega
  have HC : ∀ W, Ints W ((c.nd who).ni (q who)).q (c.nd who).queue → Calls Tryz.prog 21 #[.agg ((c.nd who).ni (q who)).cells, .int .i64 (who : Int)] W (Res W ((c.nd who).ni (q who)) (c.nd who).queue [] code) := fun W hW => hcon W hW
  clear hcon H
  go_enter Tryz.func17, Tryz.ntmps17
  go_upto_region 1 with fail
  generalize (w.alloc (.cells zR 33)) = w0 at Z L0 hsz H0 ⊢
  have hq0 : Ints w0 ((c.nd who).ni (q who)).q (c.nd who).queue := H0.ints who hw
  have hcall := HC _ hq0
  have hr := H0.node who hw
  clear HC hq0
  go_wp2_with (first
    | (go_at_call 13; refine (bnode_any _ _).mono ?_; rw [hwin]; rintro e w' ⟨rfl, hw'⟩; obtain rfl := hw'.symm)
    | (refine wpList_load_part (by rfl) 50 _ rfl g (who * 282) (by first | rfl | simp) ((c.nd who).ni (q who)).cells _ hr Tryz.underlying50 rfl hiN ?_)
    | (go_at_call 21; refine hcall.mono ?_; clear hcall; rintro e w2 ⟨q', sa, sc, rfl, hown, hsaid, L2⟩; have hi5 := infoN (((c.nd who).ni (q who)).setQ q'); have Z2 := (Z.below L2).alloc (.cells zN.cells 50); have N2 : Blk (w2.alloc (.cells zN.cells 50)) w2.heap.size zN.cells 50 := Blk.new w2 _ _; have La : Below w2.heap.size w2 (w2.alloc (.cells zN.cells 50)) := (by go_grown); have hlt2 := Z.lt; have hlt3 := L2.size)
    | (refine wpList_store_blk rfl 50 _ _ rfl w2.heap.size zN.cells (((c.nd who).ni (q who)).setQ q').cells 50 rfl rfl N2 (by rw [ncells_size, ncells_size]) hi5 (one_cellN _ (own_one hown)) ?_; rintro w3 B3 K3; have L3 := K3.bel _ _ (Nat.le_refl _) La; have Z3 := (Z.below L2).below L3)
    | (go_at_call 16; refine (crefuse_any code _).mono ?_; rintro e w4 ⟨rfl, L4⟩; have Z4 := Z3.below L4)
    | (refine wpList_store_blk rfl 33 _ _ rfl w.heap.size zR (refused code) 33 rfl rfl Z4 rfl hi ho ?_; rintro w5 B5 K5))
  exact bodyPost_ret (result_rep rfl _ _ w.heap.size _ _ _ rfl B5) rfl ⟨rfl, K5.bel _ _ (Nat.le_refl _) (bel_trans (bel_trans (bel_trans L0 L2) L3) L4)⟩

set_option maxRecDepth 100000 in
set_option maxHeartbeats 4000000 in
theorem turn_time_yes {w : World} {g : Nat} {c : Cw} {q : Nat → Value} {nt : Value} (H : CwAt w g 62 c q nt) (who : Nat) (hw : who < 4)  (a : At) (hlen : a.words.length ≤ 1000) (hnet : c.net.length ≤ 2000)
    (hcon : ∀ W, Ints W (q who) (c.nd who).queue → Calls Tryz.prog 21 #[.agg ((c.nd who).ni (q who)).cells, .int .i64 (who : Int)] W (Res W (a.n.ni (.slice none 0 0)) a.n.queue a.words 0)) :
    Calls Tryz.prog 17 #[.pointer (some ⟨g, 0, none⟩), .int .i64 (who : Int), .func (.func 21) #[] #[]] w (Did w g nt (c.did who a) (rcells 0 (((sendAll who a.words c.net).length : Int) - (c.net.length : Int)) fun _ => 0)) := by
  have hi := info_rep 0 (((sendAll who a.words c.net).length : Int) - (c.net.length : Int)) fun _ => 0
  have ho := one_rep 0 (((sendAll who a.words c.net).length : Int) - (c.net.length : Int)) fun _ => 0
  have hz := run_zeroN
  have hiN := infoN ((c.nd who).ni (q who))
  have Z : Blk (w.alloc (.cells zR 33)) w.heap.size zR 33 := Blk.new w _ _
  have L0 : Below w.heap.size w (w.alloc (.cells zR 33)) := by go_grown
  have hsz : (w.alloc (.cells zR 33)).heap.size = w.heap.size + 1 := by simp
  have H0 := H.keep L0
  have hwin : win (who : Int) 0 3 = true := win_iff.2 ⟨by omega, by omega⟩
  have hlt : (who : Int) < 4 := by omega
  have HC : ∀ W, Ints W ((c.nd who).ni (q who)).q (c.nd who).queue → Calls Tryz.prog 21 #[.agg ((c.nd who).ni (q who)).cells, .int .i64 (who : Int)] W (Res W (a.n.ni (.slice none 0 0)) a.n.queue a.words 0) := fun W hW => hcon W hW
  clear hcon H
  go_enter Tryz.func17, Tryz.ntmps17
  go_upto_region 1 with fail
  generalize (w.alloc (.cells zR 33)) = w0 at Z L0 hsz H0 ⊢
  have hq0 : Ints w0 ((c.nd who).ni (q who)).q (c.nd who).queue := H0.ints who hw
  have hcall := HC _ hq0
  have hr := H0.node who hw
  clear HC hq0
  go_upto_region 6 with (first
    | (go_at_call 13; refine (bnode_any _ _).mono ?_; rw [hwin]; rintro e w' ⟨rfl, hw'⟩; obtain rfl := hw'.symm)
    | (refine wpList_load_part (by rfl) 50 _ rfl g (who * 282) (by first | rfl | simp) ((c.nd who).ni (q who)).cells _ hr Tryz.underlying50 rfl hiN ?_)
    | (go_at_call 21; refine hcall.mono ?_; clear hcall; rintro e w2 ⟨q', sa, sc, rfl, hown, hsaid, L2⟩; have hi5 := infoN ((a.n.ni (.slice none 0 0)).setQ q'); have Z2 := (Z.below L2).alloc (.cells zN.cells 50); have N2 : Blk (w2.alloc (.cells zN.cells 50)) w2.heap.size zN.cells 50 := Blk.new w2 _ _; have La : Below w2.heap.size w2 (w2.alloc (.cells zN.cells 50)) := (by go_grown); have hlt2 := Z.lt; have hlt3 := L2.size)
    | (refine wpList_store_blk rfl 50 _ _ rfl w2.heap.size zN.cells ((a.n.ni (.slice none 0 0)).setQ q').cells 50 rfl rfl N2 (by rw [ncells_size, ncells_size]) hi5 (one_cellN _ (own_one hown)) ?_; rintro w3 B3 K3; have L3 := K3.bel _ _ (Nat.le_refl _) La; have Z3 := (Z.below L2).below L3; have H3 := (H0.keep L2).keep L3; have hown3 := own_below hown L3; have hsaid3 := own_below hsaid L3))
  clear hown hsaid hr N2 Z2 K3 La
  refine held_region (fun W => Blk W w2.heap.size ((a.n.ni (.slice none 0 0)).setQ q').cells 50) [] [(0, 0), (1, 0), (2, 1), (3, 0), (4, 0), (5, 0), (6, 2)] (by kernel_rfl) (by kernel_rfl) (by kernel_rfl) rfl (fun _ _ d _ _ h => by cases d <;> exact h) B3.drew ?_
  repeat (first
    | (refine ord_load rfl (by rfl) 50 _ rfl w2.heap.size 0 rfl ((a.n.ni (.slice none 0 0)).setQ q').cells _ (fun W H => H.range) Tryz.underlying50 rfl hi5 ?_; simp only [Act.put, List.setIfInBounds_toArray, List.set_cons_zero, List.set_cons_succ])
    | (refine ord_run0_ex rfl (by rfl) ?_
       apply Exists.intro
       refine ⟨fun w0 => ?_, ?_⟩
       · go_simp; rfl
       simp only [Act.put, List.setIfInBounds_toArray, List.set_cons_zero, List.set_cons_succ]))
  refine ord_do rfl ?_
  refine wpList_store_node rfl 50 _ _ rfl g who (fun i => (c.nd i).ni (q i)) nt c.liar (c.acts : Int) ((a.n.ni (.slice none 0 0)).setQ q') 62 (by first | rfl | simp) rfl hw H3.blk.drew hi5 (one_cellN _ (own_one hown3)) ?_
  rintro w4 B4 G4 hs4
  have hgw : g < w2.heap.size := by have := H0.blk.lt; omega
  refine ⟨fun _ => B3.drew.grown G4 (by omega), ?_⟩
  simp only [Act.put]
  show wpOrd _ _ _ _ _ [] _ _ _
  unfold wpOrd
  have T4 : Touch g nt w3 w4 := ⟨G4.os, G4.tape, G4.output, G4.size, fun k hk hg _ => G4.block k hk (fun e => hg (Option.some.inj e))⟩
  have C4 := CwAt.put H3.drew G4 who w0.heap.size a.n q' B4 hown3 (by have := H0.blk.lt; omega) (by decide) (by decide)
  have S4 := T4.own H3.blk H3.net hsaid3 (by decide) (by decide)
  have Z4 := T4.blk H3.blk H3.net Z3 (by decide) (by decide)
  have TT : Touch g nt w w4 := (Touch.below (nt := nt) (bel_trans (bel_trans L0 L2) L3)).trans T4 (Next.refl _ _)
  clear B4 G4 hs4 hown3 hsaid3 Z3 H3 B3 H0 Z
  go_wp2_with (first
    | (go_at_call 33; refine (send_any C4 hnet who sa sc w0.heap.size a.words S4 (by omega)).mono ?_; rintro e w5 ⟨rfl, nt5, C5, T5, N5, O5⟩; have Z5 := T5.blk C4.blk C4.net Z4 (by decide) (by decide))
    | (refine wpList_store_blk rfl 33 _ _ rfl w.heap.size zR (rcells 0 (((sendAll who a.words c.net).length : Int) - (c.net.length : Int)) fun _ => 0) 33 rfl rfl Z5 rfl hi ho ?_; rintro w6 B6 K6))
  exact bodyPost_ret (result_rep rfl _ _ w.heap.size _ _ _ rfl B6) rfl ⟨rfl, _, nt5, C5.kept K6 Z5 (by decide) (by decide) (by decide), (TT.trans T5 (Next.refl _ _)).more (K6.bel _ _ (Nat.le_refl _) (Below.refl _ _)) (Nat.le_refl _), (Next.refl nt w).trans N5 TT.size⟩
end Go.Proofs.YtmmgaonlmpajbacGreat
