/-
  A slice of events that came in as data: what it holds. Of no function: one law of reading.
-/
import Derived.Test.YticnffakngpkfaaAgg
import Derived.Test.YticnffakngpkfaaEvAll
import Derived.DataReads
namespace Go.Proofs.Yticnffakngpkfaa
open Go.ChangeShapes Go.WideShapes Go.RowKit Go.Deep Go.WideElems

section
variable {H : Type} {enc : TypeId × Value → H} {P : Program} {w : World}

theorem evat_of_cells {a : Addr} {i : Nat} {ev : Ev} (h : w.cells? 0 (a.add (i * 6)) 6 = some ev.cells) (hs : a.spot = none) : EvAt w a.block (a.off + i * 6) ev := by
  obtain ⟨b, o, s⟩ := a
  simp at hs
  subst hs
  obtain ⟨_, _, hc⟩ := World.cells?_some h
  rw [Addr.add_lit] at hc
  have key : ∀ j, j < 6 → w.cell? ⟨b, o + i * 6 + j, none⟩ = ev.cells[j]? := fun j hj => by
    have := hc j hj
    rwa [Addr.add_lit] at this
  exact ⟨key 0 (by decide), key 1 (by decide), key 2 (by decide), key 3 (by decide), key 4 (by decide), key 5 (by decide)⟩

/-- A slice of structs of four int64 and two strings, read: its events. -/
theorem evs_value {t e : TypeId} {f0 f1 f2 f3 f4 f5 : Field} {a0 : Option Addr} {len cap : Nat} {D : DataW H} {p : List MemPlace} (hsl : P.underlying t = some (.slice e)) (ht : P.underlying e = some (.struct #[f0, f1, f2, f3, f4, f5])) (hone : oneCellFields P #[f0, f1, f2, f3, f4, f5] = true) (hC : P.cellsOf e = 6)
    (u0 : P.underlying f0.type = some (.int .i64)) (u1 : P.underlying f1.type = some (.int .i64)) (u2 : P.underlying f2.type = some (.int .i64)) (u3 : P.underlying f3.type = some (.int .i64)) (u4 : P.underlying f4.type = some .string) (u5 : P.underlying f5.type = some .string)
    (h : DataW.Trod enc P w 0 (fun _ => true) true t (.slice a0 len cap) D p) : ∃ es : List Ev, EvSl w (.slice a0 len cap) es ∧ Fit es ∧ es.length ≤ maxLen := by
  obtain ⟨fuel, hf⟩ := h
  rcases open_slice hsl hf with ⟨hcs, _⟩ | ⟨a, len', cap', m, n, D', Pl, hcs, _, hl, hm, hmm, _, hel⟩
  · simp [Value.cells] at hcs
    obtain ⟨rfl, rfl, rfl⟩ := hcs
    exact ⟨[], .inl ⟨none, 0, rfl, rfl⟩, fun i hi => absurd hi (by simp), Nat.zero_le _⟩
  · simp [Value.cells] at hcs
    obtain ⟨rfl, rfl, rfl⟩ := hcs
    simp only [if_true] at hmm
    subst hmm
    have hex : ∀ i, i < len → ∃ ev : Ev, w.cells? 0 (a.add (i * 6)) 6 = some ev.cells ∧ ev.step.size ≤ maxLen ∧ ev.val.size ≤ maxLen := by
      intro i hi
      obtain ⟨cs', h1, h2⟩ := hel i (by omega)
      rw [hC] at h1
      obtain ⟨x0, x1, x2, x3, s, v, rfl, _, _, _, _, hs, hv⟩ := ev_cells ht hone hC u0 u1 u2 u3 u4 u5 h2
      exact ⟨⟨x0, x1, x2, x3, s, v⟩, h1, hs, hv⟩
    obtain ⟨f, hfx⟩ : ∃ f : Nat → Ev, ∀ i, i < len → w.cells? 0 (a.add (i * 6)) 6 = some (f i).cells ∧ (f i).step.size ≤ maxLen ∧ (f i).val.size ≤ maxLen := by
      refine ⟨fun i => if hi : i < len then Classical.choose (hex i hi) else ⟨0, 0, 0, 0, ByteArray.empty, ByteArray.empty⟩, fun i hi => ?_⟩
      simp only [dif_pos hi]
      exact Classical.choose_spec (hex i hi)
    refine ⟨(List.range len).map f, ?_, ?_, by simp; omega⟩
    · by_cases h0 : len = 0
      · subst h0
        exact .inl ⟨some a, m, rfl, rfl⟩
      · have hc0 := (hfx 0 (by omega)).1
        have hspot : a.spot = none := by
          obtain ⟨_, _, hc⟩ := World.cells?_some hc0
          have := World.cell?_spot (hc 0 (by decide))
          simpa [Addr.add] using this
        have hblk : a.block < w.heap.size := by
          have := World.cells?_block hc0 (by decide)
          simpa [Addr.add] using this
        refine .inr ⟨a.block, a.off, m, ?_, by simp; omega, hblk, fun i hi => ?_⟩
        · obtain ⟨b, o, s⟩ := a
          simp at hspot
          subst hspot
          simp
        · have hi' : i < len := by simpa using hi
          simpa using evat_of_cells (hfx i hi').1 hspot
    · intro i hi
      have hi' : i < len := by simpa using hi
      simpa using (hfx i hi').2
end
end Go.Proofs.Yticnffakngpkfaa
