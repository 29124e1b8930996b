/-
  Queries: a reader of the specification's in a world grown out of another. Of no function.
-/
import Derived.Test.YthgmphmghnonbaaDoorZQpR
import Derived.Test.YthgmphmghnonbaaDoorZRdGm
namespace Go.Proofs.YthgmphmghnonbaaDoor
open Go.RowKit

/-- A reader in a world grown out of another. -/
structure RdT (w W : World) (b : Nat) (sv : Value) (ws : List ByteArray) (k : Nat) (bad : Bool) : Prop where
  rd : RdS W b sv ws k bad
  gr : w.grownBy W (some b)
  st : ∃ k0 b0, RdS w b sv ws k0 b0
theorem RdT.lt {w W : World} {b k : Nat} {sv : Value} {ws : List ByteArray} {bad : Bool} (h : RdT w W b sv ws k bad) : b < w.heap.size := let ⟨_, _, h⟩ := h.st; lt_heap h.hb
theorem RdT.refl {w : World} {b k : Nat} {sv : Value} {ws : List ByteArray} {bad : Bool} (h : RdS w b sv ws k bad) : RdT w w b sv ws k bad := ⟨h, World.grownBy.refl _ _, k, bad, h⟩
theorem RdT.below {w W W' : World} {b k : Nat} {sv : Value} {ws : List ByteArray} {bad : Bool} (h : RdT w W b sv ws k bad) (hb : Below W.heap.size W W') : RdT w W' b sv ws k bad := ⟨h.rd.below hb, grown_trans h.gr (grown_below hb), h.st⟩
theorem RdT.alloc {w W : World} {b k : Nat} {sv : Value} {ws : List ByteArray} {bad : Bool} (h : RdT w W b sv ws k bad) (o : Obj) : RdT w (W.alloc o) b sv ws k bad := h.below ((Below.refl _ _).alloc (Nat.le_refl _) o)
theorem RdT.drew {w W : World} {b k : Nat} {sv : Value} {ws : List ByteArray} {bad : Bool} (h : RdT w W b sv ws k bad) : RdT w W.drew b sv ws k bad := h.below (Below.refl _ _).drew
theorem RdT.call {w W W' : World} {b k k' : Nat} {sv : Value} {ws : List ByteArray} {bad bad' : Bool} (h : RdT w W b sv ws k bad) (h1 : RdS W' b sv ws k' bad') (h2 : W.grownBy W' (some b)) : RdT w W' b sv ws k' bad' := ⟨h1, grown_trans h.gr h2, h.st⟩
theorem RdT.own {w W W' : World} {b k g : Nat} {sv : Value} {ws : List ByteArray} {bad : Bool} (h : RdT w W b sv ws k bad) (hg : W.grownBy W' (some g)) (hge : w.heap.size ≤ g) : RdT w W' b sv ws k bad := by
  have hlt := h.lt
  have hs := h.gr.size
  obtain ⟨k0, b0, h0⟩ := h.st
  have hg' : w.grownBy W' (some b) := ⟨hg.os.trans h.gr.os, hg.tape.trans h.gr.tape, hg.output.trans h.gr.output, Nat.le_trans hs hg.size, fun j hj hr => (hg.block j (Nat.lt_of_lt_of_le hj hs) (fun e => by have := Option.some.inj e; omega)).trans (h.gr.block j hj hr)⟩
  exact ⟨h0.next hg' ((hg.block b (Nat.lt_of_lt_of_le hlt hs) (fun e => by have := Option.some.inj e; omega)).trans h.rd.hb) h.rd.le, hg', k0, b0, h0⟩
theorem RdT.set {w W : World} {b k : Nat} {sv : Value} {ws : List ByteArray} {bad : Bool} (h : RdT w W b sv ws k bad) {g : Nat} (hg : w.heap.size ≤ g) (i : Nat) (v : Value) : RdT w (W.setCell ⟨g, i, none⟩ v) b sv ws k bad := h.own (grown_set W g i v) hg
end Go.Proofs.YthgmphmghnonbaaDoor
