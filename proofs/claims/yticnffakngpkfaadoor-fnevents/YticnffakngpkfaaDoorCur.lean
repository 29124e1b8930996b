/-
  Reading on in a text: what is read, step by step (plain functions); a cursor in memory. Of no function.
-/
import Derived.Test.YticnffakngpkfaaDoorTextAt
import Derived.Test.YticnffakngpkfaaDoorEvS
import Derived.Test.YticnffakngpkfaaDoorOwn
namespace Go.Proofs.YticnffakngpkfaaDoor
open Go.RowKit Get

/-- A number read at a place, or none; and the place behind it. -/
def numS (t : ByteArray) : Option Nat → Int × Option Nat
  | none => (0, none)
  | some a => if (gn t a).2.2 = 0 then ((gn t a).1, some (gn t a).2.1.toNat) else (0, none)
def textS (t : ByteArray) : Option Nat → ByteArray × Option Nat
  | none => (⟨#[]⟩, none)
  | some a =>
    if (gn t a).2.2 = 0 then
      if (gn t a).1 < 0 ∨ 8000 < (gn t a).1 then (⟨#[]⟩, none)
      else if (t.size : Int) - (gn t a).1 < (gn t a).2.1 then (⟨#[]⟩, none)
      else (t.extract (gn t a).2.1.toNat ((gn t a).2.1 + (gn t a).1).toNat, some ((gn t a).2.1 + (gn t a).1).toNat)
    else (⟨#[]⟩, none)

/-- The program's cursor: a place, or a fault. -/
def CurAt (w : World) (b : Nat) (t : ByteArray) : Option Nat → Prop
  | some a => a ≤ t.size ∧ w.heap[b]? = some (.cells [.string t, .int .i64 (a : Int), .nilIface].toArray 49 (0, 0))
  | none => ∃ (a : Nat) (u : TypeId) (x : Value), w.heap[b]? = some (.cells [.string t, .int .i64 (a : Int), .iface u x].toArray 49 (0, 0))
/-- The specification's reader: a place, or bad. -/
def RdrAt (w : World) (b : Nat) (t : ByteArray) : Option Nat → Prop
  | some a => a ≤ t.size ∧ w.heap[b]? = some (.cells [.string t, .int .i64 (a : Int), .bool false].toArray 63 (0, 0))
  | none => ∃ a : Nat, a ≤ t.size ∧ w.heap[b]? = some (.cells [.string t, .int .i64 (a : Int), .bool true].toArray 63 (0, 0))

theorem CurAt.lt {w : World} {b : Nat} {t : ByteArray} {st : Option Nat} (h : CurAt w b t st) : b < w.heap.size := by
  cases st with
  | some a => exact lt_heap h.2
  | none => obtain ⟨a, u, x, h⟩ := h; exact lt_heap h
theorem RdrAt.lt {w : World} {b : Nat} {t : ByteArray} {st : Option Nat} (h : RdrAt w b t st) : b < w.heap.size := by
  cases st with
  | some a => exact lt_heap h.2
  | none => obtain ⟨a, _, h⟩ := h; exact lt_heap h
theorem CurAt.of_block {w w' : World} {b : Nat} {t : ByteArray} {st : Option Nat} (h : CurAt w b t st) (hb : w'.heap[b]? = w.heap[b]?) : CurAt w' b t st := by
  cases st with
  | some a => exact ⟨h.1, hb.trans h.2⟩
  | none => obtain ⟨a, u, x, h⟩ := h; exact ⟨a, u, x, hb.trans h⟩
theorem RdrAt.of_block {w w' : World} {b : Nat} {t : ByteArray} {st : Option Nat} (h : RdrAt w b t st) (hb : w'.heap[b]? = w.heap[b]?) : RdrAt w' b t st := by
  cases st with
  | some a => exact ⟨h.1, hb.trans h.2⟩
  | none => obtain ⟨a, ha, h⟩ := h; exact ⟨a, ha, hb.trans h⟩

theorem numS_none {t : ByteArray} : numS t none = (0, none) := rfl
theorem numS_ok {t : ByteArray} {a : Nat} (h : (gn t a).2.2 = 0) : numS t (some a) = ((gn t a).1, some (gn t a).2.1.toNat) := if_pos h
theorem numS_bad {t : ByteArray} {a : Nat} (h : ¬ (gn t a).2.2 = 0) : numS t (some a) = (0, none) := if_neg h
theorem textS_none {t : ByteArray} : textS t none = (⟨#[]⟩, none) := rfl
theorem textS_bad {t : ByteArray} {a : Nat} (h : ¬ (gn t a).2.2 = 0) : textS t (some a) = (⟨#[]⟩, none) := if_neg h
theorem textS_syn {t : ByteArray} {a : Nat} (h : (gn t a).2.2 = 0) (h1 : (gn t a).1 < 0 ∨ 8000 < (gn t a).1) : textS t (some a) = (⟨#[]⟩, none) := by
  show (if _ then _ else _) = _
  rw [if_pos h, if_pos h1]
theorem textS_short {t : ByteArray} {a : Nat} (h : (gn t a).2.2 = 0) (h1 : ¬ ((gn t a).1 < 0 ∨ 8000 < (gn t a).1)) (h2 : (t.size : Int) - (gn t a).1 < (gn t a).2.1) : textS t (some a) = (⟨#[]⟩, none) := by
  show (if _ then _ else _) = _
  rw [if_pos h, if_neg h1, if_pos h2]
theorem textS_ok {t : ByteArray} {a : Nat} (h : (gn t a).2.2 = 0) (h1 : ¬ ((gn t a).1 < 0 ∨ 8000 < (gn t a).1)) (h2 : ¬ (t.size : Int) - (gn t a).1 < (gn t a).2.1) :
    textS t (some a) = (t.extract (gn t a).2.1.toNat ((gn t a).2.1 + (gn t a).1).toNat, some ((gn t a).2.1 + (gn t a).1).toNat) := by
  show (if _ then _ else _) = _
  rw [if_pos h, if_neg h1, if_neg h2]
end Go.Proofs.YticnffakngpkfaaDoor
