/-
  Draws: what (*spec.l01Src).edge and spoil, and spec.l01Source answer: contracts over the seat's program.
-/
import Derived.Test.YtcjclioockjfhaaDoorSrcA
import Derived.RegionTactic
namespace Go.Proofs.YtcjclioockjfhaaDoor
open Go.RowKit

theorem cell_lit {w : World} {g i : Nat} {L : List Value} {t : TypeId} (h : w.heap[g]? = some (.cells L.toArray t (0, 0))) (hi : i < L.length) : w.cell? ⟨g, i, none⟩ = some L[i] := by
  rw [Lib.cell_of_heap h]; simp [hi]
def edges : List Int := [0, 1, -1, 2, 1000, 1001, 2147483648, 2147483647, -2147483648, 4611686018427387904, 9223372036854775807, -9223372036854775808, 1000000, 1000001]

/-- An int64. -/
def InI (r : Int) : Prop := -9223372036854775808 ≤ r ∧ r ≤ 9223372036854775807
theorem edges_in : ∀ r ∈ edges, InI r := by
  intro r hr
  simp [edges] at hr
  unfold InI
  omega

set_option maxRecDepth 100000 in
theorem edge_bd (b n : Nat) (V : Value) (w : World) (h : Drw w b V n) :
    Calls Tryd.prog 39 #[.pointer (some ⟨b, 0, none⟩)] w fun e w' => ∃ r : Int, e = .returned (.int .i64 r) ∧ InI r ∧ Drw w' b V n ∧ w.grownBy w' (some b) := by
  have hlt := h.src.lt
  have c1 := hid (fun w h => srcN_any b n V 14 w h (by decide))
  have H := hid h
  clear h
  go_enter Tryd.func39, Tryd.ntmps39
  go_wp2_with fail
  have hN := heap_alloc_new w (.cells (edges.map (Value.int .i64)).toArray 2)
  refine (c1.out _ (H.out.stay (r := none) (World.grownBy_alloc w _ _) (fun k hk => by cases hk))).mono ?_
  rintro e w1 ⟨r, rfl, ⟨r0, r1, _⟩, hd, hg⟩
  have r1' := r1 (by decide)
  obtain ⟨i, rfl⟩ := Int.eq_ofNat_of_zero_le r0
  have hS1 : w1.heap[w.heap.size]? = some (.cells (edges.map (Value.int .i64)).toArray 2 (0, 0)) := by rw [hg.block w.heap.size (by simp) (by simp; omega)]; exact hN
  have hi : i < (edges.map (Value.int .i64)).length := by show i < 14; omega
  have hc := cell_lit hS1 hi
  rw [List.getElem_map] at hc
  have hE : InI edges[i] := edges_in _ (List.getElem_mem _)
  generalize edges[i] = E at *
  have HD := hid hd
  have HG := hid (grown_trans (World.grownBy_alloc w _ _) hg)
  clear hd hg hS1 r0 r1 hN hi
  go_wp2
  go_ret
  exact ⟨E, rfl, hE, HD.out, HG.out⟩
theorem edge_any (b n : Nat) (V : Value) (w : World) (h : Drw w b V n) :
    Calls Tryd.prog 39 #[.pointer (some ⟨b, 0, none⟩)] w fun e w' => ∃ r : Int, e = .returned (.int .i64 r) ∧ Drw w' b V n ∧ w.grownBy w' (some b) :=
  (edge_bd b n V w h).mono fun _ _ ⟨r, he, _, hd, hg⟩ => ⟨r, he, hd, hg⟩
end Go.Proofs.YtcjclioockjfhaaDoor
