/-
  An event that came in as data: its six cells. Of no function: small laws of reading.
-/
import Derived.Test.YtdfkmhleikkhpaaRows
import Derived.WalkKit
import Derived.ProofKit
import Derived.OpenShut
import Derived.Deep.Fields
import Derived.Deep.Slices
namespace Go.Proofs.Ytdfkmhleikkhpaa
open Go.ChangeShapes Go.WideShapes Go.RowKit Go.Deep Go.WideElems

theorem list6 {α : Type} {l : List α} (h : l.length = 6) : ∃ a b c d e f, l = [a, b, c, d, e, f] := by
  match l, h with
  | [a, b, c, d, e, f], _ => exact ⟨a, b, c, d, e, f, rfl⟩
section
variable {H : Type} {enc : TypeId × Value → H} {P : Program} {w : World} {base : Nat} {spare : Nat → Bool} {held : Bool}

theorem field_int {f : Field} {n i : Nat} {k : IntKind} {cs : List Value} {c : Value} {y : Option (DataW H × List MemPlace)} {z : DataW H × List MemPlace} (ho : f.offset = i ∧ P.cellsOf f.type = 1) (hc : (cs.drop i).take 1 = [c]) (hu : P.underlying f.type = some (.int k))
    (h : DataW.trod enc P w base spare held n f.type ((cs.drop f.offset).take (P.cellsOf f.type)) = y) (hy : y = some z) : ∃ q, c = .int k q ∧ (Lit.int k q).wf = true := by
  rw [ho.1, ho.2, hc, hy] at h
  obtain ⟨q, e, _, hq⟩ := DataW.trod_int hu h
  exact ⟨q, by simpa using e, hq⟩
theorem field_str {f : Field} {n i : Nat} {cs : List Value} {c : Value} {y : Option (DataW H × List MemPlace)} {z : DataW H × List MemPlace} (ho : f.offset = i ∧ P.cellsOf f.type = 1) (hc : (cs.drop i).take 1 = [c]) (hu : P.underlying f.type = some .string)
    (h : DataW.trod enc P w base spare held n f.type ((cs.drop f.offset).take (P.cellsOf f.type)) = y) (hy : y = some z) : ∃ s : ByteArray, c = .string s ∧ s.size ≤ maxLen := by
  rw [ho.1, ho.2, hc, hy] at h
  obtain ⟨q, e, _, hq⟩ := DataW.trod_string hu h
  exact ⟨q, by simpa using e, hq⟩

/-- A struct of four int64 and two strings, read: its six cells. -/
theorem ev_cells {t : TypeId} {f0 f1 f2 f3 f4 f5 : Field} {fuel : Nat} {cs : List Value} {x : DataW H × List MemPlace} (ht : P.underlying t = some (.struct #[f0, f1, f2, f3, f4, f5])) (hone : oneCellFields P #[f0, f1, f2, f3, f4, f5] = true) (hC : P.cellsOf t = 6)
    (u0 : P.underlying f0.type = some (.int .i64)) (u1 : P.underlying f1.type = some (.int .i64)) (u2 : P.underlying f2.type = some (.int .i64)) (u3 : P.underlying f3.type = some (.int .i64)) (u4 : P.underlying f4.type = some .string) (u5 : P.underlying f5.type = some .string)
    (h : DataW.trod enc P w base spare held fuel t cs = some x) :
    ∃ (a b c d : Int) (s v : ByteArray), cs = [.int .i64 a, .int .i64 b, .int .i64 c, .int .i64 d, .string s, .string v] ∧ (Lit.int .i64 a).wf = true ∧ (Lit.int .i64 b).wf = true ∧ (Lit.int .i64 c).wf = true ∧ (Lit.int .i64 d).wf = true ∧ s.size ≤ maxLen ∧ v.size ≤ maxLen := by
  obtain ⟨xs, n, _, _, hl, hlen, hf⟩ := DataW.trod_struct ht h
  obtain ⟨c0, c1, c2, c3, c4, c5, rfl⟩ := list6 (hl.trans hC)
  obtain ⟨x0, x1, x2, x3, x4, x5, rfl⟩ := list6 (show xs.length = 6 from hlen)
  obtain ⟨a, rfl, ha⟩ := field_int (hone_of hone 0 f0 rfl) rfl u0 (hf 0 f0 rfl) rfl
  obtain ⟨b, rfl, hb⟩ := field_int (hone_of hone 1 f1 rfl) rfl u1 (hf 1 f1 rfl) rfl
  obtain ⟨c, rfl, hc⟩ := field_int (hone_of hone 2 f2 rfl) rfl u2 (hf 2 f2 rfl) rfl
  obtain ⟨d, rfl, hd⟩ := field_int (hone_of hone 3 f3 rfl) rfl u3 (hf 3 f3 rfl) rfl
  obtain ⟨s, rfl, hs⟩ := field_str (hone_of hone 4 f4 rfl) rfl u4 (hf 4 f4 rfl) rfl
  obtain ⟨v, rfl, hv⟩ := field_str (hone_of hone 5 f5 rfl) rfl u5 (hf 5 f5 rfl) rfl
  exact ⟨a, b, c, d, s, v, rfl, ha, hb, hc, hd, hs, hv⟩
/-- The same, handed in by value. -/
theorem ev_value {r : Reach} {b0 : Nat} {t : TypeId} {f0 f1 f2 f3 f4 f5 : Field} {V : Value} {D : DataW H} {p : List MemPlace} (ht : P.underlying t = some (.struct #[f0, f1, f2, f3, f4, f5])) (hone : oneCellFields P #[f0, f1, f2, f3, f4, f5] = true) (hC : P.cellsOf t = 6)
    (u0 : P.underlying f0.type = some (.int .i64)) (u1 : P.underlying f1.type = some (.int .i64)) (u2 : P.underlying f2.type = some (.int .i64)) (u3 : P.underlying f3.type = some (.int .i64)) (u4 : P.underlying f4.type = some .string) (u5 : P.underlying f5.type = some .string)
    (hv : Value.okWide P w r b0 t V) (h : DataW.Trod enc P w base spare held t V D p) :
    ∃ (a b c d : Int) (s v : ByteArray), V = .agg #[.int .i64 a, .int .i64 b, .int .i64 c, .int .i64 d, .string s, .string v] ∧ s.size ≤ maxLen ∧ v.size ≤ maxLen := by
  obtain ⟨cs, rfl, _⟩ := okWide_struct ht hv
  obtain ⟨fuel, hf⟩ := h
  obtain ⟨a, b, c, d, s, v, e, _, _, _, _, hs, hv⟩ := ev_cells ht hone hC u0 u1 u2 u3 u4 u5 hf
  refine ⟨a, b, c, d, s, v, ?_, hs, hv⟩
  congr 1
  apply Array.toList_inj.1
  simpa [Value.cells] using e
end
end Go.Proofs.Ytdfkmhleikkhpaa
