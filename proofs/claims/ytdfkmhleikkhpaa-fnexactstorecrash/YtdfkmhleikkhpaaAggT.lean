/-
  A Store that came in as data: its two cells. Of no function: a small law of reading.
-/
import Derived.Test.YtdfkmhleikkhpaaAgg
namespace Go.Proofs.Ytdfkmhleikkhpaa
open Go.ChangeShapes Go.WideShapes Go.RowKit Go.Deep Go.WideElems

theorem list2 {α : Type} {l : List α} (h : l.length = 2) : ∃ a b, l = [a, b] := by
  match l, h with
  | [a, b], _ => exact ⟨a, b, rfl⟩
section
variable {H : Type} {enc : TypeId × Value → H} {P : Program} {w : World} {base : Nat} {spare : Nat → Bool} {held : Bool}
/-- A struct of a string and an int64, handed in by value. -/
theorem sto_value {r : Reach} {b0 : Nat} {t : TypeId} {f0 f1 : Field} {V : Value} {D : DataW H} {p : List MemPlace} (ht : P.underlying t = some (.struct #[f0, f1])) (hone : oneCellFields P #[f0, f1] = true) (hC : P.cellsOf t = 2)
    (u0 : P.underlying f0.type = some .string) (u1 : P.underlying f1.type = some (.int .i64))
    (hv : Value.okWide P w r b0 t V) (h : DataW.Trod enc P w base spare held t V D p) :
    ∃ (s : ByteArray) (n : Int), V = .agg #[.string s, .int .i64 n] ∧ s.size ≤ maxLen := by
  obtain ⟨cs, rfl, _⟩ := okWide_struct ht hv
  obtain ⟨fuel, hf⟩ := h
  obtain ⟨xs, n, _, _, hl, hlen, hf⟩ := DataW.trod_struct ht hf
  obtain ⟨c0, c1, he⟩ := list2 (hl.trans hC)
  obtain ⟨x0, x1, rfl⟩ := list2 (show xs.length = 2 from hlen)
  rw [he] at hf
  obtain ⟨s, rfl, hs⟩ := field_str (hone_of hone 0 f0 rfl) rfl u0 (hf 0 f0 rfl) rfl
  obtain ⟨a, rfl, _⟩ := field_int (hone_of hone 1 f1 rfl) rfl u1 (hf 1 f1 rfl) rfl
  refine ⟨s, a, ?_, hs⟩
  congr 1
  apply Array.toList_inj.1
  simpa [Value.cells] using he
end
end Go.Proofs.Ytdfkmhleikkhpaa
