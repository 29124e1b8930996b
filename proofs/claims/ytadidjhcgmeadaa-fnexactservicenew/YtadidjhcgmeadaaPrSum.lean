/-
  How much pairs of texts take. Of no function.
-/
import Derived.Test.YtadidjhcgmeadaaStrs
namespace Go.Proofs.Ytadidjhcgmeadaa
open Go.RowKit

def sumP : List Pr → Nat
  | [] => 0
  | e :: r => e.fst.size + e.snd.size + sumP r
theorem sumP_append (a b : List Pr) : sumP (a ++ b) = sumP a + sumP b := by
  induction a with
  | nil => simp [sumP]
  | cons e r ih => simp [sumP, ih]; omega
theorem sumP_take {es : List Pr} {k : Nat} (h : k < es.length) : sumP (es.take (k + 1)) = sumP (es.take k) + (es[k].fst.size + es[k].snd.size) := by
  rw [List.take_succ_eq_append_getElem h, sumP_append]; simp [sumP]
theorem sumP_le (es : List Pr) (k : Nat) : sumP (es.take k) ≤ sumP es := by
  have := sumP_append (es.take k) (es.drop k)
  rw [List.take_append_drop] at this; omega
def FitP (es : List Pr) : Prop := ∀ i, (h : i < es.length) → es[i].fst.size ≤ maxLen ∧ es[i].snd.size ≤ maxLen
def szP (left : Int) (es : List Pr) : Int := if (es.length : Int) + (sumP es : Int) ≤ left then left - (es.length : Int) - (sumP es : Int) else -1
theorem szP_yes {left : Int} {es : List Pr} (h : (es.length : Int) + (sumP es : Int) ≤ left) : szP left es = left - (es.length : Int) - (sumP es : Int) := if_pos h
theorem szP_no {left : Int} {es : List Pr} (h : left < (es.length : Int) + (sumP es : Int)) : szP left es = -1 := if_neg (by omega)
theorem pflat_take {es : List Pr} {k : Nat} (h : k < es.length) : (es.take (k + 1)).flatMap Pr.cells = (es.take k).flatMap Pr.cells ++ es[k].cells := by
  rw [List.take_succ_eq_append_getElem h, List.flatMap_append]; simp
theorem own_row2 {w : World} {base g n : Nat} {e : TypeId} {xs : List Value} (h : w.ownsRow base e 2 (.slice (some ⟨g, 0, none⟩) n n) n xs) : ∃ L : List Value, L.length = n * 2 ∧ w.heap[g]? = some (.cells L.toArray e (0, 0)) := by
  rcases h.2 with ⟨h1, _⟩ | ⟨g', cap, cur, h1, _, hh, _, _, hc, _⟩
  · cases h1
  · injection h1 with h1 _ h3
    injection h1 with h1
    injection h1 with h1 _ _
    subst h1; subst h3
    exact ⟨cur.toList, by simpa using hc, by simpa using hh⟩
theorem own_row1 {w : World} {base g n : Nat} {e : TypeId} {xs : List Value} (h : w.ownsRow base e 1 (.slice (some ⟨g, 0, none⟩) n n) n xs) : ∃ L : List Value, L.length = n ∧ w.heap[g]? = some (.cells L.toArray e (0, 0)) := by
  rcases h.2 with ⟨h1, _⟩ | ⟨g', cap, cur, h1, _, hh, _, _, hc, _⟩
  · cases h1
  · injection h1 with h1 _ h3
    injection h1 with h1
    injection h1 with h1 _ _
    subst h1; subst h3
    exact ⟨cur.toList, by simpa using hc, by simpa using hh⟩
theorem cell_is {w : World} {g j : Nat} {L : List Value} {t : TypeId} (h : w.heap[g]? = some (.cells L.toArray t (0, 0))) (hj : j < L.length) : ∃ u, w.cell? ⟨g, j, none⟩ = some u := by
  refine ⟨L[j], ?_⟩
  rw [Lib.cell_of_heap h]
  simp [hj]
theorem set2_take {L : List Value} {i : Nat} {a b : Value} (h : i + 2 ≤ L.length) : ((L.set i a).set (i + 1) b).take (i + 2) = L.take i ++ [a, b] := by
  apply List.ext_getElem?
  intro j
  by_cases h0 : j < i
  · rw [List.getElem?_append_left (by simp; omega)]
    simp [show ¬ i = j by omega, show ¬ i + 1 = j by omega, h0, show j < i + 2 by omega]
  · obtain ⟨m, rfl⟩ : ∃ m, j = i + m := ⟨j - i, by omega⟩
    rw [List.getElem?_append_right (by simp; omega), show i + m - (L.take i).length = m by simp; omega]
    match m with
    | 0 => simp [List.getElem?_set]; omega
    | 1 => simp [List.getElem?_set]; omega
    | n + 2 => simp [List.getElem?_take]; omega
theorem set1_take {L : List Value} {i : Nat} {a : Value} (h : i + 1 ≤ L.length) : (L.set i a).take (i + 1) = L.take i ++ [a] := by
  apply List.ext_getElem?
  intro j
  by_cases h0 : j < i
  · rw [List.getElem?_append_left (by simp; omega)]
    simp [show ¬ i = j by omega, h0, show j < i + 1 by omega]
  · obtain ⟨m, rfl⟩ : ∃ m, j = i + m := ⟨j - i, by omega⟩
    rw [List.getElem?_append_right (by simp; omega), show i + m - (L.take i).length = m by simp; omega]
    match m with
    | 0 => simp [List.getElem?_set]; omega
    | n + 1 => simp [List.getElem?_take]
end Go.Proofs.Ytadidjhcgmeadaa
