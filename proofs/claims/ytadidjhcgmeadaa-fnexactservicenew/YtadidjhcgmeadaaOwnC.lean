/-
  Rows of one's own where other blocks turn. Of no function.
-/
import Derived.Test.YtadidjhcgmeadaaChg
import Derived.Test.YtadidjhcgmeadaaOwnB
import Derived.Test.YtadidjhcgmeadaaOwn
namespace Go.Proofs.Ytadidjhcgmeadaa
open Go.RowKit

/-- A row of one's own lies in no block of another type. -/
theorem own_ne {w : World} {base size n B : Nat} {e t : TypeId} {v : Value} {xs : List Value} {c : Array Value} {f : Nat × Nat} (h : w.ownsRow base e size v n xs) (hB : w.heap[B]? = some (.cells c t f)) (hne : e ≠ t) : ∀ g, v.ownBlock = some g → g ≠ B := by
  intro g hg he
  subst he
  rcases h.2 with ⟨hv, _⟩ | ⟨g', cap, cur, hv, _, hh, _⟩
  · rw [hv] at hg; cases hg
  · rw [hv] at hg
    injection hg with hg
    subst hg
    rw [hB] at hh
    injection hh with hh
    injection hh with _ h2 _
    exact hne h2.symm
/-- It stays where its block does. -/
theorem own_chg {p : Nat → Prop} {w w' : World} {base size n : Nat} {e : TypeId} {v : Value} {xs : List Value} (h : w.ownsRow base e size v n xs) (hc : Chg p w w') (hp : ∀ g, v.ownBlock = some g → ¬ p g) : w'.ownsRow base e size v n xs := by
  refine ⟨h.1, ?_⟩
  rcases h.2 with h0 | ⟨g, cap, cur, hv, hb, hh, r⟩
  · exact .inl h0
  · exact .inr ⟨g, cap, cur, hv, hb, (hc.block g (lt_heap hh) (hp g (by rw [hv]; rfl))).trans hh, r⟩
theorem own_lt {w : World} {base size n : Nat} {e : TypeId} {v : Value} {xs : List Value} (h : w.ownsRow base e size v n xs) : ∀ g, v.ownBlock = some g → base ≤ g ∧ g < w.heap.size := fun g hg => h.lt g hg
/-- Two rows in two blocks. -/
def Apart (v u : Value) : Prop := ∀ g, v.ownBlock = some g → u.ownBlock ≠ some g
theorem Apart.symm {v u : Value} (h : Apart v u) : Apart u v := fun g hg he => h g he hg
theorem apart_of {w : World} {b1 b2 s1 s2 n1 n2 m : Nat} {e1 e2 : TypeId} {v u : Value} {xs ys : List Value} {w' : World} (h : w.ownsRow b1 e1 s1 v n1 xs) (h' : w'.ownsRow b2 e2 s2 u n2 ys) (hm : w.heap.size ≤ m) (hb : m ≤ b2) : Apart v u := fun g hg he => by
  have := (h.lt g hg).2
  have := (h'.lt g he).1
  omega
/-- Rows of two types lie apart. -/
theorem apart_ty {w : World} {b1 b2 s1 s2 n1 n2 : Nat} {e1 e2 : TypeId} {v u : Value} {xs ys : List Value} (h : w.ownsRow b1 e1 s1 v n1 xs) (h' : w.ownsRow b2 e2 s2 u n2 ys) (hne : e1 ≠ e2) : Apart v u := fun g hg he => by
  rcases h'.2 with ⟨hv, _⟩ | ⟨g', cap, cur, hv, _, hh, _⟩
  · rw [hv] at he; cases he
  · rw [hv] at he
    injection he with he
    subst he
    exact own_ne h hh hne g' hg rfl
end Go.Proofs.Ytadidjhcgmeadaa
