/-
  Rows of events in memory: what it is that a slice holds these events, and that it stays so. Of no function.
-/
import Derived.Test.YtadidjhcgmeadaaEvX
namespace Go.Proofs.Ytadidjhcgmeadaa
open Go.RowKit

def Ev.cells (e : Ev) : List Value := [.int .i64 e.seq, .int .i64 e.time, .int .i64 e.run, .int .i64 e.kind, .string e.step, .string e.val]
/-- An event at a place. -/
structure EvAt (w : World) (g o : Nat) (e : Ev) : Prop where
  c0 : w.cell? ⟨g, o, none⟩ = some (.int .i64 e.seq)
  c1 : w.cell? ⟨g, o + 1, none⟩ = some (.int .i64 e.time)
  c2 : w.cell? ⟨g, o + 2, none⟩ = some (.int .i64 e.run)
  c3 : w.cell? ⟨g, o + 3, none⟩ = some (.int .i64 e.kind)
  c4 : w.cell? ⟨g, o + 4, none⟩ = some (.string e.step)
  c5 : w.cell? ⟨g, o + 5, none⟩ = some (.string e.val)
/-- A row of events, from a place on. -/
def EvsAt (w : World) (g o : Nat) (es : List Ev) : Prop := g < w.heap.size ∧ ∀ i, (h : i < es.length) → EvAt w g (o + i * 6) es[i]
/-- What a slice of events is: empty, or a row somewhere. -/
def EvSl (w : World) (v : Value) (es : List Ev) : Prop :=
  (∃ a c, v = .slice a 0 c ∧ es = []) ∨ ∃ g o c, v = .slice (some ⟨g, o, none⟩) es.length c ∧ 0 < es.length ∧ EvsAt w g o es

theorem EvAt.below {w w' : World} {B g o : Nat} {e : Ev} (h : EvAt w g o e) (hb : Below B w w') (hg : g < B) : EvAt w' g o e :=
  ⟨by rw [hb.cell (p := ⟨g, o, none⟩) hg]; exact h.c0, by rw [hb.cell (p := ⟨g, o + 1, none⟩) hg]; exact h.c1, by rw [hb.cell (p := ⟨g, o + 2, none⟩) hg]; exact h.c2,
   by rw [hb.cell (p := ⟨g, o + 3, none⟩) hg]; exact h.c3, by rw [hb.cell (p := ⟨g, o + 4, none⟩) hg]; exact h.c4, by rw [hb.cell (p := ⟨g, o + 5, none⟩) hg]; exact h.c5⟩
theorem EvsAt.below {w w' : World} {B g o : Nat} {es : List Ev} (h : EvsAt w g o es) (hb : Below B w w') (hg : g < B) : EvsAt w' g o es :=
  ⟨Nat.lt_of_lt_of_le h.1 hb.size, fun i hi => (h.2 i hi).below hb hg⟩
theorem EvsAt.stay {w w' : World} {B g o : Nat} {es : List Ev} (h : EvsAt w g o es) (hb : Below B w w') (hB : w.heap.size ≤ B) : EvsAt w' g o es := h.below hb (Nat.lt_of_lt_of_le h.1 hB)
theorem EvSl.stay {w w' : World} {B : Nat} {v : Value} {es : List Ev} (h : EvSl w v es) (hb : Below B w w') (hB : w.heap.size ≤ B) : EvSl w' v es := by
  rcases h with h | ⟨g, o, c, hv, hn, h⟩
  · exact .inl h
  · exact .inr ⟨g, o, c, hv, hn, h.stay hb hB⟩

theorem flat_at : ∀ (es : List Ev) (i j : Nat), (h : i < es.length) → j < 6 → (es.flatMap Ev.cells)[i * 6 + j]? = es[i].cells[j]?
  | [], i, _, h, _ => absurd h (by simp)
  | e :: r, 0, j, _, hj => by
    rw [List.flatMap_cons, List.getElem?_append_left (by simpa [Ev.cells] using hj)]
    simp
  | e :: r, i + 1, j, h, hj => by
    have hi : i < r.length := by simpa using h
    have h6 : e.cells.length = 6 := rfl
    rw [List.flatMap_cons, List.getElem?_append_right (by omega), h6, show (i + 1) * 6 + j - 6 = i * 6 + j by omega, flat_at r i j hi hj]
    simp
theorem flat_len (es : List Ev) : (es.flatMap Ev.cells).length = es.length * 6 := by
  induction es with
  | nil => rfl
  | cons e r ih => rw [List.flatMap_cons, List.length_append, ih]; simp [Ev.cells]; omega

theorem at_of_cells {w : World} {g : Nat} {es : List Ev} (hc : ∀ j u, (es.flatMap Ev.cells)[j]? = some u → w.cell? ((⟨g, 0, none⟩ : Addr).add j) = some u) (i : Nat) (h : i < es.length) : EvAt w g (0 + i * 6) es[i] := by
  have key : ∀ j u, j < 6 → es[i].cells[j]? = some u → w.cell? ⟨g, 0 + i * 6 + j, none⟩ = some u := by
    intro j u hj hu
    have := hc (i * 6 + j) u (by rw [flat_at es i j h hj]; exact hu)
    rw [Addr.add_lit] at this
    rwa [Nat.add_assoc]
  exact ⟨key 0 _ (by decide) rfl, key 1 _ (by decide) rfl, key 2 _ (by decide) rfl, key 3 _ (by decide) rfl, key 4 _ (by decide) rfl, key 5 _ (by decide) rfl⟩
/-- A row that a call owns, of events. -/
theorem sl_of_own {w : World} {base n : Nat} {e : TypeId} {v : Value} {es : List Ev} (h : w.ownsRow base e 6 v n (es.flatMap Ev.cells)) : EvSl w v es := by
  have hn : n = es.length := by have := h.1; rw [flat_len] at this; omega
  subst hn
  rcases h.2 with ⟨hv, h0⟩ | ⟨g, cap, cur, hv, _⟩
  · exact .inl ⟨none, 0, hv, List.eq_nil_of_length_eq_zero h0⟩
  · by_cases h0 : es.length = 0
    · exact .inl ⟨some ⟨g, 0, none⟩, cap, by rw [hv, h0], List.eq_nil_of_length_eq_zero h0⟩
    · have hlt := (h.lt g (by rw [hv]; rfl)).2
      exact .inr ⟨g, 0, cap, hv, by omega, hlt, fun i hi => at_of_cells (h.cells (by rw [hv]; rfl)) i hi⟩
/-- The texts of these events can be handed about. -/
def Fit (es : List Ev) : Prop := ∀ i, (h : i < es.length) → es[i].step.size ≤ maxLen ∧ es[i].val.size ≤ maxLen
end Go.Proofs.Ytadidjhcgmeadaa
