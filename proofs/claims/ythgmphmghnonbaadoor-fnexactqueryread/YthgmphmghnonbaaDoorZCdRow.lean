/-
  Texts put together: CdRow, CdSl.
-/
import Derived.Test.YthgmphmghnonbaaDoorZQuM
import Derived.Test.YthgmphmghnonbaaDoorZStrs
/-
  Rows of Conds. Of no function.
-/
namespace Go.Proofs.YthgmphmghnonbaaDoor
open Go.RowKit

theorem Tryd.infoCd : (Tryd.prog.info? 45).map (fun i => (i.zero, i.size, i.bytes)) = some (some (.agg #[.string ⟨#[]⟩, .string ⟨#[]⟩, .string ⟨#[]⟩, .int .i64 0]), 4, 56) := by kernel_rfl
def lenC : Value → Nat | .slice _ n _ => n | _ => 0
theorem cd_one (c : Cd) : ∀ u ∈ c.cells, u.oneCell' = true := by
  intro u hu
  simp [Cd.cells] at hu
  rcases hu with rfl | rfl | rfl | rfl <;> rfl
theorem cd_snoc (l : List Cd) (c : Cd) : (l ++ [c]).flatMap Cd.cells = l.flatMap Cd.cells ++ c.cells := by simp
theorem cd_new (w : World) (c : Cd) (T : TypeId) : ∀ j u, c.cells[j]? = some u → (w.alloc (.cells c.cells.toArray T)).cell? ((⟨w.heap.size, 0, none⟩ : Addr).add j) = some u := by
  intro j u hj
  rw [Addr.add_lit, Nat.zero_add, World.cell?_alloc_mark]
  simpa using hj
theorem cd_first (w W : World) (c : Cd) (T : TypeId) (hs : w.heap.size ≤ W.heap.size) : (W.alloc (.cells #[.string c.fld, .string c.op, .string c.wrd, .int .i64 c.n] T)).ownsRow w.heap.size T 4 (.slice (some ⟨W.heap.size, 0, none⟩) 1 1) 1 ([c].flatMap Cd.cells) :=
  ⟨rfl, .inr ⟨_, 1, _, rfl, hs, heap_alloc_new _ _, Nat.le_refl _, by unfold maxLen; omega, rfl, by simp [Cd.cells]⟩⟩
end Go.Proofs.YthgmphmghnonbaaDoor

/-
  Rows of Conds in memory: what it is that a slice holds them. Of no function.
-/
namespace Go.Proofs.YthgmphmghnonbaaDoor
open Go.RowKit

structure CdAt (w : World) (g o : Nat) (c : Cd) : Prop where
  c0 : w.cell? ⟨g, o, none⟩ = some (.string c.fld)
  c1 : w.cell? ⟨g, o + 1, none⟩ = some (.string c.op)
  c2 : w.cell? ⟨g, o + 2, none⟩ = some (.string c.wrd)
  c3 : w.cell? ⟨g, o + 3, none⟩ = some (.int .i64 c.n)
def CdsAt (w : World) (g o : Nat) (cs : List Cd) : Prop := g < w.heap.size ∧ ∀ i, (h : i < cs.length) → CdAt w g (o + i * 4) cs[i]
def CdSl (w : World) (v : Value) (cs : List Cd) : Prop :=
  (∃ a c, v = .slice a 0 c ∧ cs = []) ∨ ∃ g o c, v = .slice (some ⟨g, o, none⟩) cs.length c ∧ 0 < cs.length ∧ CdsAt w g o cs
theorem CdAt.below {w w' : World} {B g o : Nat} {c : Cd} (h : CdAt w g o c) (hb : Below B w w') (hg : g < B) : CdAt w' g o c :=
  ⟨by rw [hb.cell (p := ⟨g, o, none⟩) hg]; exact h.c0, by rw [hb.cell (p := ⟨g, o + 1, none⟩) hg]; exact h.c1, by rw [hb.cell (p := ⟨g, o + 2, none⟩) hg]; exact h.c2, by rw [hb.cell (p := ⟨g, o + 3, none⟩) hg]; exact h.c3⟩
theorem CdsAt.stay {w w' : World} {B g o : Nat} {cs : List Cd} (h : CdsAt w g o cs) (hb : Below B w w') (hB : w.heap.size ≤ B) : CdsAt w' g o cs :=
  ⟨Nat.lt_of_lt_of_le h.1 hb.size, fun i hi => (h.2 i hi).below hb (Nat.lt_of_lt_of_le h.1 hB)⟩
theorem cflat_at : ∀ (cs : List Cd) (i j : Nat), (h : i < cs.length) → j < 4 → (cs.flatMap Cd.cells)[i * 4 + j]? = cs[i].cells[j]?
  | [], i, _, h, _ => absurd h (by simp)
  | p :: r, 0, j, _, hj => by
    rw [List.flatMap_cons, List.getElem?_append_left (by simp [Cd.cells]; omega)]; simp
  | p :: r, i + 1, j, h, hj => by
    rw [List.flatMap_cons, List.getElem?_append_right (by simp [Cd.cells]; omega), show (i + 1) * 4 + j - p.cells.length = i * 4 + j by simp [Cd.cells]; omega]
    rw [cflat_at r i j (by simpa using h) hj]; simp
theorem cflat_len (cs : List Cd) : (cs.flatMap Cd.cells).length = cs.length * 4 := by
  induction cs with
  | nil => rfl
  | cons p r ih => rw [List.flatMap_cons, List.length_append, ih]; simp [Cd.cells]; omega
theorem cd_of_own {w : World} {base n : Nat} {e : TypeId} {v : Value} {cs : List Cd} (h : w.ownsRow base e 4 v n (cs.flatMap Cd.cells)) : CdSl w v cs := by
  have hn : n = cs.length := by have := h.1; rw [cflat_len] at this; omega
  subst hn
  rcases h.2 with ⟨hv, h0⟩ | ⟨g, cap, cur, hv, _, _, hle, _⟩
  · exact .inl ⟨none, 0, hv, List.eq_nil_of_length_eq_zero h0⟩
  · by_cases h0 : cs.length = 0
    · exact .inl ⟨some ⟨g, 0, none⟩, cap, by rw [hv, h0], List.eq_nil_of_length_eq_zero h0⟩
    · have hlt := (h.lt g (by rw [hv]; rfl)).2
      refine .inr ⟨g, 0, cap, hv, by omega, hlt, fun i hi => ?_⟩
      have key : ∀ j, j < 4 → ∀ u, cs[i].cells[j]? = some u → w.cell? ⟨g, 0 + i * 4 + j, none⟩ = some u := fun j hj u hu => by
        have := h.cells (g := g) (by rw [hv]; rfl) (i * 4 + j) u (by rw [cflat_at cs i j hi hj]; exact hu)
        rw [Addr.add_lit] at this
        simpa [Nat.add_assoc] using this
      exact ⟨key 0 (by decide) _ rfl, key 1 (by decide) _ rfl, key 2 (by decide) _ rfl, key 3 (by decide) _ rfl⟩
end Go.Proofs.YthgmphmghnonbaaDoor
