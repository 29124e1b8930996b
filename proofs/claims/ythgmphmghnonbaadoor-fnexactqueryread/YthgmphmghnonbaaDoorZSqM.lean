/-
  Queries: what spec's query holds while it reads: the reader, the Query in its box, its Conds. Of no function.
-/
import Derived.Test.YthgmphmghnonbaaDoorZRdTm
import Derived.Test.YthgmphmghnonbaaDoorZCdRow
import Derived.Test.YthgmphmghnonbaaDoorZStrs
namespace Go.Proofs.YthgmphmghnonbaaDoor
open Go.RowKit

theorem NewB.grow {w W W' : World} {g : Nat} {L : List Value} {T : TypeId} {r : Option Nat} (h : NewB w W g L T) (hg : W.grownBy W' r) (hr : ∀ j, r = some j → j ≠ g) : NewB w W' g L T :=
  ⟨(hg.block g (lt_heap h.blk) (fun e => hr g e.symm rfl)).trans h.blk, h.ge⟩
theorem RdT.grow {w W W' : World} {b k : Nat} {bad : Bool} {sv : Value} {ws : List ByteArray} {r : Option Nat} (h : RdT w W b sv ws k bad) (hg : W.grownBy W' r) (hr : ∀ j, r = some j → w.heap.size ≤ j) : RdT w W' b sv ws k bad := by
  cases r with
  | none => exact h.below ⟨hg.os, hg.tape, hg.output, hg.size, fun k hk => hg.block k hk (by simp)⟩
  | some g => exact h.own hg (hr g rfl)
structure SQ (w X : World) (b : Nat) (sv : Value) (ws : List ByteArray) (k : Nat) (bad : Bool) (cnt : Bool) (v : Value) (cs : List Cd) (by' ord : ByteArray) (dwn : Bool) (lim : Int) : Prop where
  D : RdT w X b sv ws k bad
  P : NewB w X w.heap.size [.bool false, .slice none 0 0, .string ⟨#[]⟩, .string ⟨#[]⟩, .bool false, .int .i64 0] 24
  Q : NewB w X (w.heap.size + 1) [.bool cnt, v, .string by', .string ord, .bool dwn, .int .i64 lim] 24
  O : X.ownsRow (w.heap.size + 2) 45 4 v cs.length (cs.flatMap Cd.cells)
  hs : w.heap.size + 2 ≤ X.heap.size
theorem SQ.call {w X : World} {b k : Nat} {bad : Bool} {sv : Value} {ws : List ByteArray} {cnt : Bool} {v : Value} {cs : List Cd} {by' ord : ByteArray} {dwn : Bool} {lim : Int} {X' : World} {k' : Nat} {bad' : Bool} (h : SQ w (X) b sv ws k bad cnt v cs by' ord dwn lim) (hr : RdS X' b sv ws k' bad') (hg : X.grownBy X' (some b)) : SQ w (X') b sv ws k' bad' cnt v cs by' ord dwn lim :=
  ⟨h.D.call hr hg, h.P.call hg h.D.lt, h.Q.call hg h.D.lt, own_kept h.O (by have := h.D.lt; omega) hg, Nat.le_trans h.hs hg.size⟩
theorem SQ.below {w X : World} {b k : Nat} {bad : Bool} {sv : Value} {ws : List ByteArray} {cnt : Bool} {v : Value} {cs : List Cd} {by' ord : ByteArray} {dwn : Bool} {lim : Int} {X' : World} (h : SQ w (X) b sv ws k bad cnt v cs by' ord dwn lim) (hb : Below X.heap.size X X') : SQ w (X') b sv ws k bad cnt v cs by' ord dwn lim :=
  ⟨h.D.below hb, h.P.below hb, h.Q.below hb, ownB_stay h.O hb, Nat.le_trans h.hs hb.size⟩
theorem SQ.sC {w X : World} {b k : Nat} {bad : Bool} {sv : Value} {ws : List ByteArray} {cnt : Bool} {v : Value} {cs : List Cd} {by' ord : ByteArray} {dwn : Bool} {lim : Int} (h : SQ w (X) b sv ws k bad cnt v cs by' ord dwn lim) (x : Bool) : SQ w (X.setCell ⟨w.heap.size + 1, 0, none⟩ (.bool x)) b sv ws k bad x v cs by' ord dwn lim :=
  ⟨h.D.set (by omega) 0 _, h.P.other (by omega) 0 _, h.Q.set 0 _, own_kept h.O (by omega) (grown_set X (w.heap.size + 1) 0 _), by have := h.hs; simpa [World.setCell] using this⟩
theorem SQ.sB {w X : World} {b k : Nat} {bad : Bool} {sv : Value} {ws : List ByteArray} {cnt : Bool} {v : Value} {cs : List Cd} {by' ord : ByteArray} {dwn : Bool} {lim : Int} (h : SQ w (X) b sv ws k bad cnt v cs by' ord dwn lim) (x : ByteArray) : SQ w (X.setCell ⟨w.heap.size + 1, 2, none⟩ (.string x)) b sv ws k bad cnt v cs x ord dwn lim :=
  ⟨h.D.set (by omega) 2 _, h.P.other (by omega) 2 _, h.Q.set 2 _, own_kept h.O (by omega) (grown_set X (w.heap.size + 1) 2 _), by have := h.hs; simpa [World.setCell] using this⟩
theorem SQ.sO {w X : World} {b k : Nat} {bad : Bool} {sv : Value} {ws : List ByteArray} {cnt : Bool} {v : Value} {cs : List Cd} {by' ord : ByteArray} {dwn : Bool} {lim : Int} (h : SQ w (X) b sv ws k bad cnt v cs by' ord dwn lim) (x : ByteArray) : SQ w (X.setCell ⟨w.heap.size + 1, 3, none⟩ (.string x)) b sv ws k bad cnt v cs by' x dwn lim :=
  ⟨h.D.set (by omega) 3 _, h.P.other (by omega) 3 _, h.Q.set 3 _, own_kept h.O (by omega) (grown_set X (w.heap.size + 1) 3 _), by have := h.hs; simpa [World.setCell] using this⟩
theorem SQ.sD {w X : World} {b k : Nat} {bad : Bool} {sv : Value} {ws : List ByteArray} {cnt : Bool} {v : Value} {cs : List Cd} {by' ord : ByteArray} {dwn : Bool} {lim : Int} (h : SQ w (X) b sv ws k bad cnt v cs by' ord dwn lim) (x : Bool) : SQ w (X.setCell ⟨w.heap.size + 1, 4, none⟩ (.bool x)) b sv ws k bad cnt v cs by' ord x lim :=
  ⟨h.D.set (by omega) 4 _, h.P.other (by omega) 4 _, h.Q.set 4 _, own_kept h.O (by omega) (grown_set X (w.heap.size + 1) 4 _), by have := h.hs; simpa [World.setCell] using this⟩
theorem SQ.sL {w X : World} {b k : Nat} {bad : Bool} {sv : Value} {ws : List ByteArray} {cnt : Bool} {v : Value} {cs : List Cd} {by' ord : ByteArray} {dwn : Bool} {lim : Int} (h : SQ w (X) b sv ws k bad cnt v cs by' ord dwn lim) (x : Int) : SQ w (X.setCell ⟨w.heap.size + 1, 5, none⟩ (.int .i64 x)) b sv ws k bad cnt v cs by' ord dwn x :=
  ⟨h.D.set (by omega) 5 _, h.P.other (by omega) 5 _, h.Q.set 5 _, own_kept h.O (by omega) (grown_set X (w.heap.size + 1) 5 _), by have := h.hs; simpa [World.setCell] using this⟩
theorem SQ.app {w X : World} {b k : Nat} {bad : Bool} {sv : Value} {ws : List ByteArray} {cnt : Bool} {v : Value} {cs : List Cd} {by' ord : ByteArray} {dwn : Bool} {lim : Int} {X' : World} {v' : Value} {cs' : List Cd} (h : SQ w (X) b sv ws k bad cnt v cs by' ord dwn lim) (hg : X.grownBy X' v.ownBlock) (ho : X'.ownsRow (w.heap.size + 2) 45 4 v' cs'.length (cs'.flatMap Cd.cells)) : SQ w (X'.setCell ⟨w.heap.size + 1, 1, none⟩ v') b sv ws k bad cnt v' cs' by' ord dwn lim :=
  ⟨(h.D.grow hg (fun j e => by have := (h.O.lt j e).1; omega)).set (by omega) 1 _, (h.P.grow hg (fun j e => by have := (h.O.lt j e).1; omega)).other (by omega) 1 _, (h.Q.grow hg (fun j e => by have := (h.O.lt j e).1; omega)).set 1 _, own_kept ho (by omega) (grown_set X' (w.heap.size + 1) 1 _), by have := Nat.le_trans h.hs hg.size; simpa [World.setCell] using this⟩
theorem SQ.drewN {w X : World} {b k : Nat} {bad : Bool} {sv : Value} {ws : List ByteArray} {cnt : Bool} {v : Value} {cs : List Cd} {by' ord : ByteArray} {dwn : Bool} {lim : Int} (h : SQ w (X) b sv ws k bad cnt v cs by' ord dwn lim) (n : Nat) : SQ w (X.drewN n) b sv ws k bad cnt v cs by' ord dwn lim := h.below (bel_drewS (Below.refl _ _) n)
theorem SQ.drew {w X : World} {b k : Nat} {bad : Bool} {sv : Value} {ws : List ByteArray} {cnt : Bool} {v : Value} {cs : List Cd} {by' ord : ByteArray} {dwn : Bool} {lim : Int} (h : SQ w (X) b sv ws k bad cnt v cs by' ord dwn lim) : SQ w (X.drew) b sv ws k bad cnt v cs by' ord dwn lim := h.below (Below.refl _ _).drew
end Go.Proofs.YthgmphmghnonbaaDoor
