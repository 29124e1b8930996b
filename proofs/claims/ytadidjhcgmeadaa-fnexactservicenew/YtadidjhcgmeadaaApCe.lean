/-
  The cells of a slice that came in; append of none. Of no function.
-/
import Derived.Test.YtadidjhcgmeadaaStrs
import Derived.Test.YtadidjhcgmeadaaPrSum
import Derived.Laws.AppendOwnNone
namespace Go.Proofs.Ytadidjhcgmeadaa
open Go.RowKit

theorem strs_one (l : List ByteArray) : ∀ u ∈ l.map Value.string, u.oneCell' = true := by
  intro u hu
  obtain ⟨s, _, rfl⟩ := List.mem_map.1 hu
  rfl
theorem run_append_own_nil {P : Program} {w : World} (base : Nat) (t ty e : TypeId) (i : TypeInfo) (size c : Nat) (ht : P.underlying t = some (.slice e)) (hi : P.info? e = some i)
    (v : Value) (n : Nat) (xs : List Value) (hown : w.ownsRow base e size v n xs) :
    (Builtin.append_ #[t, t] ty #[v, .slice none 0 c]).run P w = .ok v w := by
  rcases hown.2 with ⟨rfl, rfl⟩ | ⟨g, cap, cur, rfl, _, _, hnc, _⟩
  · simp [Builtin.append_, run_underlying ht, sizeOf, typeInfo, hi, Builtin.lenOf, Builtin.firstCells]
  · simp [Builtin.append_, run_underlying ht, sizeOf, typeInfo, hi, Builtin.lenOf, Builtin.firstCells, hnc, storeCells]
/-- The cells of a slice: news, one for each cell, at an address, or none at all. -/
def CellsSl (w : World) (v : Value) (size n : Nat) (news : List Value) : Prop :=
  news.length = n * size ∧ (∀ u ∈ news, u.oneCell' = true) ∧ ((∃ c, v = .slice none 0 c ∧ n = 0) ∨ ∃ ad c, v = .slice (some ad) n c ∧ ∀ j u, news[j]? = some u → w.cell? (ad.add j) = some u)
theorem StrSl.cellsSl {w : World} {v : Value} {ss : List ByteArray} (h : StrSl w v ss) : CellsSl w v 1 ss.length (ss.map Value.string) := by
  refine ⟨by simp, strs_one _, ?_⟩
  rcases h with ⟨a, c, rfl, rfl⟩ | ⟨g, o, c, rfl, _, h⟩
  · rcases a with _ | ad
    · exact .inl ⟨c, rfl, rfl⟩
    · exact .inr ⟨ad, c, rfl, fun j u hj => by simp at hj⟩
  · refine .inr ⟨⟨g, o, none⟩, c, rfl, fun j u hj => ?_⟩
    rw [Addr.add_lit]
    rw [List.getElem?_map] at hj
    obtain ⟨s, hs, rfl⟩ := Option.map_eq_some_iff.1 hj
    obtain ⟨hlt, rfl⟩ := List.getElem?_eq_some_iff.1 hs
    exact h.2 j hlt
theorem prs_one (l : List Pr) : ∀ u ∈ l.flatMap Pr.cells, u.oneCell' = true := by
  intro u hu
  obtain ⟨p, _, hp⟩ := List.mem_flatMap.1 hu
  simp [Pr.cells] at hp
  rcases hp with rfl | rfl <;> rfl
theorem PrsAt.cell {w : World} {g o : Nat} {ps : List Pr} (h : PrsAt w g o ps) (j : Nat) (u : Value) (hj : (ps.flatMap Pr.cells)[j]? = some u) : w.cell? ⟨g, o + j, none⟩ = some u := by
  have hl : j < ps.length * 2 := by
    obtain ⟨hlt, _⟩ := List.getElem?_eq_some_iff.1 hj
    rw [pflat_len] at hlt; exact hlt
  have hi : j / 2 < ps.length := by omega
  have e : j = j / 2 * 2 + j % 2 := by omega
  have hm : j % 2 < 2 := by omega
  have k := h.2 (j / 2) hi
  rw [e, pflat_at ps (j / 2) (j % 2) hi hm] at hj
  rw [e]
  rcases (show j % 2 = 0 ∨ j % 2 = 1 by omega) with e0 | e0
  · rw [e0] at hj ⊢
    simp [Pr.cells] at hj
    subst hj
    rw [← Nat.add_assoc]; exact k.c0
  · rw [e0] at hj ⊢
    simp [Pr.cells] at hj
    subst hj
    rw [← Nat.add_assoc]; exact k.c1
theorem PrSl.cellsSl {w : World} {v : Value} {ps : List Pr} (h : PrSl w v ps) : CellsSl w v 2 ps.length (ps.flatMap Pr.cells) := by
  refine ⟨pflat_len ps, prs_one _, ?_⟩
  rcases h with ⟨a, c, rfl, rfl⟩ | ⟨g, o, c, rfl, _, h⟩
  · rcases a with _ | ad
    · exact .inl ⟨c, rfl, rfl⟩
    · exact .inr ⟨ad, c, rfl, fun j u hj => by simp at hj⟩
  · refine .inr ⟨⟨g, o, none⟩, c, rfl, fun j u hj => ?_⟩
    rw [Addr.add_lit]
    exact h.cell j u hj
end Go.Proofs.Ytadidjhcgmeadaa
