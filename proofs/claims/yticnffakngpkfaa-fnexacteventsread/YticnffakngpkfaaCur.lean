/-
  Reading on in a text: what is read, step by step (plain functions); a cursor in memory. Of no function.
-/
import Derived.Test.YticnffakngpkfaaTextAt
import Derived.Test.YticnffakngpkfaaEvS
import Derived.Lib.Builder
namespace Go.Proofs.Yticnffakngpkfaa
open Go.RowKit Get

/-- A number read at a place, or none; and the place behind it. -/
def numS (t : ByteArray) : Option Nat → Int × Option Nat
  | none => (0, none)
  | some a => if (gn t a).2.2 = 0 then ((gn t a).1, some (gn t a).2.1.toNat) else (0, none)
def textS (t : ByteArray) : Option Nat → ByteArray × Option Nat
  | none => (⟨#[]⟩, none)
  | some a =>
    if (gn t a).2.2 = 0 then
      if (gn t a).1 < 0 ∨ 8000 < (gn t a).1 then (⟨#[]⟩, none)
      else if (t.size : Int) - (gn t a).1 < (gn t a).2.1 then (⟨#[]⟩, none)
      else (t.extract (gn t a).2.1.toNat ((gn t a).2.1 + (gn t a).1).toNat, some ((gn t a).2.1 + (gn t a).1).toNat)
    else (⟨#[]⟩, none)

/-- The program's cursor: a place, or a fault. -/
def CurAt (w : World) (b : Nat) (t : ByteArray) : Option Nat → Prop
  | some a => a ≤ t.size ∧ w.heap[b]? = some (.cells [.string t, .int .i64 (a : Int), .nilIface].toArray 55 (0, 0))
  | none => ∃ (a : Nat) (u : TypeId) (x : Value), w.heap[b]? = some (.cells [.string t, .int .i64 (a : Int), .iface u x].toArray 55 (0, 0))
/-- The specification's reader: a place, or bad. -/
def RdrAt (w : World) (b : Nat) (t : ByteArray) : Option Nat → Prop
  | some a => a ≤ t.size ∧ w.heap[b]? = some (.cells [.string t, .int .i64 (a : Int), .bool false].toArray 50 (0, 0))
  | none => ∃ a : Nat, a ≤ t.size ∧ w.heap[b]? = some (.cells [.string t, .int .i64 (a : Int), .bool true].toArray 50 (0, 0))

theorem lt_heap {w : World} {g : Nat} {o : Obj} (h : w.heap[g]? = some o) : g < w.heap.size := by
  rcases Nat.lt_or_ge g w.heap.size with h' | h'
  · exact h'
  · simp [Array.getElem?_eq_none h'] at h
theorem CurAt.lt {w : World} {b : Nat} {t : ByteArray} {st : Option Nat} (h : CurAt w b t st) : b < w.heap.size := by
  cases st with
  | some a => exact lt_heap h.2
  | none => obtain ⟨a, u, x, h⟩ := h; exact lt_heap h
theorem RdrAt.lt {w : World} {b : Nat} {t : ByteArray} {st : Option Nat} (h : RdrAt w b t st) : b < w.heap.size := by
  cases st with
  | some a => exact lt_heap h.2
  | none => obtain ⟨a, _, h⟩ := h; exact lt_heap h
theorem CurAt.of_block {w w' : World} {b : Nat} {t : ByteArray} {st : Option Nat} (h : CurAt w b t st) (hb : w'.heap[b]? = w.heap[b]?) : CurAt w' b t st := by
  cases st with
  | some a => exact ⟨h.1, hb.trans h.2⟩
  | none => obtain ⟨a, u, x, h⟩ := h; exact ⟨a, u, x, hb.trans h⟩
theorem RdrAt.of_block {w w' : World} {b : Nat} {t : ByteArray} {st : Option Nat} (h : RdrAt w b t st) (hb : w'.heap[b]? = w.heap[b]?) : RdrAt w' b t st := by
  cases st with
  | some a => exact ⟨h.1, hb.trans h.2⟩
  | none => obtain ⟨a, ha, h⟩ := h; exact ⟨a, ha, hb.trans h⟩

/-- One cell of a block set. -/
theorem blk_set {w : World} {g i : Nat} {L : List Value} {t : TypeId} (h : w.heap[g]? = some (.cells L.toArray t (0, 0))) (v : Value) : (w.setCell ⟨g, i, none⟩ v).heap[g]? = some (.cells (L.set i v).toArray t (0, 0)) := by
  rw [setCell_eq_setRow w g i L.toArray t (0, 0) v h]
  have := setRow_heap w g L.toArray (L.toArray.setIfInBounds i v) t (0, 0) h
  simpa using this
theorem grown_set (w : World) (b i : Nat) (v : Value) : w.grownBy (w.setCell ⟨b, i, none⟩ v) (some b) :=
  ⟨rfl, rfl, rfl, by simp [World.setCell], fun k _ hk => Below.heap_setCell _ _ _ _ (fun e => hk (by simp [e]))⟩
theorem grown_trans {w w1 w2 : World} {r : Option Nat} (h1 : w.grownBy w1 r) (h2 : w1.grownBy w2 r) : w.grownBy w2 r :=
  ⟨h2.os.trans h1.os, h2.tape.trans h1.tape, h2.output.trans h1.output, Nat.le_trans h1.size h2.size, fun k hk hr => (h2.block k (Nat.lt_of_lt_of_le hk h1.size) hr).trans (h1.block k hk hr)⟩
theorem grown_below {w w' : World} {r : Option Nat} (h : Below w.heap.size w w') : w.grownBy w' r :=
  ⟨h.os, h.tape, h.output, h.size, fun k hk _ => h.block k hk⟩
theorem grown_drewN (w : World) (n : Nat) (r : Option Nat) : w.grownBy (w.drewN n) r := ⟨rfl, rfl, rfl, Nat.le_refl _, fun _ _ _ => rfl⟩

theorem numS_none {t : ByteArray} : numS t none = (0, none) := rfl
theorem numS_ok {t : ByteArray} {a : Nat} (h : (gn t a).2.2 = 0) : numS t (some a) = ((gn t a).1, some (gn t a).2.1.toNat) := if_pos h
theorem numS_bad {t : ByteArray} {a : Nat} (h : ¬ (gn t a).2.2 = 0) : numS t (some a) = (0, none) := if_neg h
theorem textS_none {t : ByteArray} : textS t none = (⟨#[]⟩, none) := rfl
theorem textS_bad {t : ByteArray} {a : Nat} (h : ¬ (gn t a).2.2 = 0) : textS t (some a) = (⟨#[]⟩, none) := if_neg h
theorem textS_syn {t : ByteArray} {a : Nat} (h : (gn t a).2.2 = 0) (h1 : (gn t a).1 < 0 ∨ 8000 < (gn t a).1) : textS t (some a) = (⟨#[]⟩, none) := by
  show (if _ then _ else _) = _
  rw [if_pos h, if_pos h1]
theorem textS_short {t : ByteArray} {a : Nat} (h : (gn t a).2.2 = 0) (h1 : ¬ ((gn t a).1 < 0 ∨ 8000 < (gn t a).1)) (h2 : (t.size : Int) - (gn t a).1 < (gn t a).2.1) : textS t (some a) = (⟨#[]⟩, none) := by
  show (if _ then _ else _) = _
  rw [if_pos h, if_neg h1, if_pos h2]
theorem textS_ok {t : ByteArray} {a : Nat} (h : (gn t a).2.2 = 0) (h1 : ¬ ((gn t a).1 < 0 ∨ 8000 < (gn t a).1)) (h2 : ¬ (t.size : Int) - (gn t a).1 < (gn t a).2.1) :
    textS t (some a) = (t.extract (gn t a).2.1.toNat ((gn t a).2.1 + (gn t a).1).toNat, some ((gn t a).2.1 + (gn t a).1).toNat) := by
  show (if _ then _ else _) = _
  rw [if_pos h, if_neg h1, if_neg h2]
end Go.Proofs.Yticnffakngpkfaa
