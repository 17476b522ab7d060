/-
  The whole: lies, and play with nothing looked at.
-/
import Derived.Test.YtmmgaonlmpajbacGreatCAlive
import Derived.Test.YtmmgaonlmpajbacGreatOpenA
namespace Go.Proofs.YtmmgaonlmpajbacGreat
open Go.RowKit

/-- A number brought to -1 to 3. -/
def liesV (n : Int) : Int := (if n.tmod 5 < 0 then n.tmod 5 + 5 else n.tmod 5) - 1
theorem liesV_bd (n : Int) : -1 ≤ liesV n ∧ liesV n ≤ 3 := by
  have h1 : n.tmod 5 < 5 := Int.tmod_lt_of_pos n (by omega)
  have h2 : -5 < n.tmod 5 := by
    have := Int.lt_tmod_of_pos n (show (0 : Int) < 5 by omega)
    omega
  unfold liesV
  split <;> omega

/-- What comes of the first k of the acts. -/
def playC (liar : Int) (l : List Ac) (k : Nat) : Cw := (l.take k).foldl (fun c a => (doC c a).1) (newC liar)
theorem playC_succ {liar : Int} {l : List Ac} {k : Nat} {a : Ac} (h : l[k]? = some a) : playC liar l (k + 1) = (doC (playC liar l k) a).1 := by
  unfold playC
  rw [List.take_add_one, h, List.foldl_append]
  rfl
theorem playC_good {liar : Int} (hl : -1 ≤ liar ∧ liar ≤ 3) (l : List Ac) : ∀ k, CG (playC liar l k)
  | 0 => newC_good hl
  | k + 1 => by
    cases h : l[k]? with
    | none =>
      have e : playC liar l (k + 1) = playC liar l k := by
        unfold playC
        rw [List.take_add_one, h]; simp
      rw [e]; exact playC_good hl l k
    | some a => rw [playC_succ h]; exact do_good (playC_good hl l k) a
/-- How many acts are played. -/
def most (l : List Ac) : Nat := min l.length 300

/-- A crowd was played with: it lies at a new block, and what was kept beside it holds. -/
def Played (w0 w : World) (c : Cw) (I : World → Prop) (e : Ending) (w' : World) : Prop :=
  ∃ g q nt, e = .returned (.tuple #[.pointer (some ⟨g, 0, none⟩), .bool true]) ∧ w.heap.size ≤ g ∧ CwAt w' g 62 c q nt ∧ (∀ k, nt.ownBlock = some k → w.heap.size ≤ k) ∧ I w' ∧ w.heap.size ≤ w'.heap.size ∧ Below w0.heap.size w0 w'

/-- What looking at each act does. -/
structure Looks (F : Nat) (caps : Array Value) (liar : Int) (l : List Ac) (w0 : World) (I : Nat → World → Prop) : Prop where
  ent : ∀ args W, Sem.run Tryz.prog (callFunc F args) W = .ok (.enter F args) W
  low : ∀ (k : Nat) (W W' : World), I k W → Below W.heap.size W W' → I k W'
  stab : ∀ (k g : Nat) (c : Cw) (q : Nat → Value) (nt : Value) (W W' : World), I k W → CwAt W g 62 c q nt → Touch g nt W W' → I k W'
  look : ∀ (k g : Nat) (x : Ac) (q : Nat → Value) (nt : Value) (W : World), l[k]? = some x → CwAt W g 62 (playC liar l (k + 1)) q nt → w0.heap.size ≤ g → (∀ b, nt.ownBlock = some b → w0.heap.size ≤ b) → I k W → Below w0.heap.size w0 W →
    Calls Tryz.prog F (#[.pointer (some ⟨g, 0, none⟩), .agg (acArr x), .agg (doC (playC liar l k) x).2] ++ caps) W (fun e W' => e = .returned (.bool true) ∧ CwAt W' g 62 (playC liar l (k + 1)) q nt ∧ I (k + 1) W' ∧ W.heap.size ≤ W'.heap.size ∧ Below w0.heap.size w0 W')

end Go.Proofs.YtmmgaonlmpajbacGreat
