/-
  Texts put together: RdGm, Bel.
-/
import Derived.Test.YtimlnbfalnkmhaaGreatDoorZQuR3
import Derived.Test.YtimlnbfalnkmhaaGreatDoorZGen2
/-
  Queries: a reader in a world grown out of another. Of no function.
-/
namespace Go.Proofs.YtimlnbfalnkmhaaGreatDoor
open Go.RowKit

/-- A reader in a world grown out of another. -/
structure RdG (w W : World) (b : Nat) (sv : Value) (ws : List ByteArray) (k : Nat) (a : Addr) : Prop where
  rd : RdI W b sv ws k a
  gr : w.grownBy W (some b)
  st : ∃ k0, RdI w b sv ws k0 a
theorem RdG.lt {w W : World} {b k : Nat} {sv : Value} {ws : List ByteArray} {a : Addr} (h : RdG w W b sv ws k a) : b < w.heap.size := let ⟨_, h⟩ := h.st; lt_heap h.hb
theorem RdG.refl {w : World} {b k : Nat} {sv : Value} {ws : List ByteArray} {a : Addr} (h : RdI w b sv ws k a) : RdG w w b sv ws k a := ⟨h, World.grownBy.refl _ _, k, h⟩
theorem RdG.below {w W W' : World} {b k : Nat} {sv : Value} {ws : List ByteArray} {a : Addr} (h : RdG w W b sv ws k a) (hb : Below W.heap.size W W') : RdG w W' b sv ws k a := ⟨h.rd.below hb, grown_trans h.gr (grown_below hb), h.st⟩
theorem RdG.alloc {w W : World} {b k : Nat} {sv : Value} {ws : List ByteArray} {a : Addr} (h : RdG w W b sv ws k a) (o : Obj) : RdG w (W.alloc o) b sv ws k a := h.below ((Below.refl _ _).alloc (Nat.le_refl _) o)
theorem RdG.drew {w W : World} {b k : Nat} {sv : Value} {ws : List ByteArray} {a : Addr} (h : RdG w W b sv ws k a) : RdG w W.drew b sv ws k a := h.below (Below.refl _ _).drew
theorem RdG.call {w W W' : World} {b k k' : Nat} {sv : Value} {ws : List ByteArray} {a : Addr} (h : RdG w W b sv ws k a) (h1 : RdI W' b sv ws k' a) (h2 : W.grownBy W' (some b)) : RdG w W' b sv ws k' a := ⟨h1, grown_trans h.gr h2, h.st⟩
theorem RdG.own {w W W' : World} {b k g : Nat} {sv : Value} {ws : List ByteArray} {a : Addr} (h : RdG w W b sv ws k a) (hg : W.grownBy W' (some g)) (hge : w.heap.size ≤ g) : RdG w W' b sv ws k a := by
  have hlt := h.lt
  have hs := h.gr.size
  obtain ⟨k0, h0⟩ := h.st
  have hg' : w.grownBy W' (some b) := ⟨hg.os.trans h.gr.os, hg.tape.trans h.gr.tape, hg.output.trans h.gr.output, Nat.le_trans hs hg.size, fun j hj hr => (hg.block j (Nat.lt_of_lt_of_le hj hs) (fun e => by have := Option.some.inj e; omega)).trans (h.gr.block j hj hr)⟩
  exact ⟨h0.next hg' ((hg.block b (Nat.lt_of_lt_of_le hlt hs) (fun e => by have := Option.some.inj e; omega)).trans h.rd.hb) h.rd.le, hg', k0, h0⟩
theorem RdG.set {w W : World} {b k : Nat} {sv : Value} {ws : List ByteArray} {a : Addr} (h : RdG w W b sv ws k a) {g : Nat} (hg : w.heap.size ≤ g) (i : Nat) (v : Value) : RdG w (W.setCell ⟨g, i, none⟩ v) b sv ws k a := h.own (grown_set W g i v) hg
/-- A block that is new. -/
structure NewB (w W : World) (g : Nat) (L : List Value) (T : TypeId) : Prop where
  blk : W.heap[g]? = some (.cells L.toArray T (0, 0))
  ge : w.heap.size ≤ g
theorem NewB.call {w W W' : World} {g b : Nat} {L : List Value} {T : TypeId} (h : NewB w W g L T) (hg : W.grownBy W' (some b)) (hb : b < w.heap.size) : NewB w W' g L T :=
  ⟨(hg.block g (lt_heap h.blk) (fun e => by have := Option.some.inj e; have := h.ge; omega)).trans h.blk, h.ge⟩
theorem NewB.below {w W W' : World} {g : Nat} {L : List Value} {T : TypeId} (h : NewB w W g L T) (hg : Below W.heap.size W W') : NewB w W' g L T := ⟨(hg.block g (lt_heap h.blk)).trans h.blk, h.ge⟩
theorem NewB.alloc {w W : World} {g : Nat} {L : List Value} {T : TypeId} (h : NewB w W g L T) (o : Obj) : NewB w (W.alloc o) g L T := h.below ((Below.refl _ _).alloc (Nat.le_refl _) o)
theorem NewB.made {w W : World} (L : List Value) (T : TypeId) (hs : w.heap.size ≤ W.heap.size) : NewB w (W.alloc (.cells L.toArray T)) W.heap.size L T := ⟨heap_alloc_new _ _, hs⟩
theorem NewB.set {w W : World} {g : Nat} {L : List Value} {T : TypeId} (h : NewB w W g L T) (i : Nat) (v : Value) : NewB w (W.setCell ⟨g, i, none⟩ v) g (L.set i v) T := ⟨blk_set h.blk v, h.ge⟩
theorem NewB.other {w W : World} {g q : Nat} {L : List Value} {T : TypeId} (h : NewB w W g L T) (hne : q ≠ g) (i : Nat) (v : Value) : NewB w (W.setCell ⟨q, i, none⟩ v) g L T :=
  ⟨(Below.heap_setCell _ _ _ _ (fun e => hne (by simpa using e.symm))).trans h.blk, h.ge⟩
theorem NewB.frozen {w W : World} {g : Nat} {L : List Value} {T : TypeId} (h : NewB w W g L T) (i : Nat) : W.frozen? ⟨g, i, none⟩ = false := Lib.frozen_of_heap h.blk i
theorem NewB.cell {w W : World} {g : Nat} {L : List Value} {T : TypeId} (h : NewB w W g L T) (i : Nat) : W.cell? ⟨g, i, none⟩ = L[i]? := by rw [Lib.cell_of_heap h.blk]; simp
/-- How a reading ends: by what it reads, or by the panic of impl.errWord, at a place. -/
def EndR {α : Type} (w : World) (b : Nat) (sv : Value) (ws : List ByteArray) (a : Addr) (val : α → Value) (r : Except Nat (α × Nat)) (e : Ending) (w' : World) : Prop := match r with
  | .ok (x, k) => e = .returned (val x) ∧ RdI w' b sv ws k a ∧ w.grownBy w' (some b)
  | .error k => e = .panicked [{ v := errQ a, recovered := false }] ∧ RdI w' b sv ws k a ∧ w.grownBy w' (some b)
end Go.Proofs.YtimlnbfalnkmhaaGreatDoor

/-
  Two blocks laid: nothing old has turned. Of no function.
-/
namespace Go.Proofs.YtimlnbfalnkmhaaGreatDoor
open Go.RowKit

theorem below2 (w : World) (o1 o2 : Obj) : Below w.heap.size w ((w.alloc o1).alloc o2) := ((Below.refl _ _).alloc (Nat.le_refl _) o1).alloc (by simp) o2
end Go.Proofs.YtimlnbfalnkmhaaGreatDoor
