/-
  What impl.readEvent answers, and where the cursor stands behind it: a contract over the seat's program.
-/
import Derived.Test.YticnffakngpkfaaDoorCurI
namespace Go.Proofs.YticnffakngpkfaaDoor
open Go.RowKit Get

/-- An event read at a place, and the place behind it. -/
def evS (t : ByteArray) (st : Option Nat) : Ev × Option Nat :=
  (⟨(numS t st).1, (numS t (numS t st).2).1, (numS t (numS t (numS t st).2).2).1, (numS t (numS t (numS t (numS t st).2).2).2).1,
    (textS t (numS t (numS t (numS t (numS t st).2).2).2).2).1, (textS t (textS t (numS t (numS t (numS t (numS t st).2).2).2).2).2).1⟩,
   (textS t (textS t (numS t (numS t (numS t (numS t st).2).2).2).2).2).2)
theorem evS_eq {t : ByteArray} {st s1 s2 s3 s4 s5 s6 : Option Nat} {q0 q1 q2 q3 : Int} {q4 q5 : ByteArray} (h1 : numS t st = (q0, s1)) (h2 : numS t s1 = (q1, s2)) (h3 : numS t s2 = (q2, s3)) (h4 : numS t s3 = (q3, s4)) (h5 : textS t s4 = (q4, s5)) (h6 : textS t s5 = (q5, s6)) :
    evS t st = (⟨q0, q1, q2, q3, q4, q5⟩, s6) := by
  simp only [evS, h1, h2, h3, h4, h5, h6]

theorem alloc_old {w : World} {o : Obj} {b : Nat} (h : b < w.heap.size) : (w.alloc o).heap[b]? = w.heap[b]? := Below.heap_alloc w o b h

theorem grown_put {w w6 : World} {r : Option Nat} {g i : Nat} {v : Value} (h : w.grownBy w6 r) (hg : w.heap.size ≤ g) : w.grownBy (w6.setCell ⟨g, i, none⟩ v) r :=
  ⟨h.os, h.tape, h.output, by simpa [World.setCell] using h.size, fun k hk hr => (Below.heap_setCell _ ⟨g, i, none⟩ _ _ (by show k ≠ g; omega)).trans (h.block k hk hr)⟩
theorem put6_grown {w w6 : World} {r : Option Nat} {g : Nat} (h : w.grownBy w6 r) (hg : w.heap.size ≤ g) (a b c d e f : Value) :
    w.grownBy ((((((w6.setCell ⟨g, 0, none⟩ a).setCell ⟨g, 1, none⟩ b).setCell ⟨g, 2, none⟩ c).setCell ⟨g, 3, none⟩ d).setCell ⟨g, 4, none⟩ e).setCell ⟨g, 5, none⟩ f) r :=
  grown_put (grown_put (grown_put (grown_put (grown_put (grown_put h hg) hg) hg) hg) hg) hg
theorem put_other {w : World} {b g i : Nat} (h : b ≠ g) (v : Value) : (w.setCell ⟨g, i, none⟩ v).heap[b]? = w.heap[b]? := Below.heap_setCell _ ⟨g, i, none⟩ _ _ h
theorem put6_other {w6 : World} {x g : Nat} (h : x ≠ g) (a b c d e f : Value) :
    ((((((w6.setCell ⟨g, 0, none⟩ a).setCell ⟨g, 1, none⟩ b).setCell ⟨g, 2, none⟩ c).setCell ⟨g, 3, none⟩ d).setCell ⟨g, 4, none⟩ e).setCell ⟨g, 5, none⟩ f).heap[x]? = w6.heap[x]? := by
  rw [put_other h, put_other h, put_other h, put_other h, put_other h, put_other h]
set_option maxHeartbeats 1000000 in
set_option maxRecDepth 100000 in
theorem readEvent_any (b : Nat) (t : ByteArray) (st : Option Nat) (w : World) (ht : (t.size : Int) ≤ 8000) (h : CurAt w b t st) :
    Calls Tryd.prog 27 #[.pointer (some ⟨b, 0, none⟩)] w fun e w' => e = .returned (.agg (evS t st).1.cells.toArray) ∧ CurAt w' b t (evS t st).2 ∧ w.grownBy w' (some b) := by
  obtain ⟨⟨q0, s1⟩, h1⟩ : ∃ x, numS t st = x := ⟨_, rfl⟩
  obtain ⟨⟨q1, s2⟩, h2⟩ : ∃ x, numS t s1 = x := ⟨_, rfl⟩
  obtain ⟨⟨q2, s3⟩, h3⟩ : ∃ x, numS t s2 = x := ⟨_, rfl⟩
  obtain ⟨⟨q3, s4⟩, h4⟩ : ∃ x, numS t s3 = x := ⟨_, rfl⟩
  obtain ⟨⟨q4, s5⟩, h5⟩ : ∃ x, textS t s4 = x := ⟨_, rfl⟩
  obtain ⟨⟨q5, s6⟩, h6⟩ : ∃ x, textS t s5 = x := ⟨_, rfl⟩
  rw [evS_eq h1 h2 h3 h4 h5 h6]
  show Calls _ _ _ _ fun e w' => e = .returned (.agg #[.int .i64 q0, .int .i64 q1, .int .i64 q2, .int .i64 q3, .string q4, .string q5]) ∧ CurAt w' b t s6 ∧ w.grownBy w' (some b)
  have d1 := hid (fun w h => h1 ▸ curNum_any b t st w ht h)
  have d2 := hid (fun w h => h2 ▸ curNum_any b t s1 w ht h)
  have d3 := hid (fun w h => h3 ▸ curNum_any b t s2 w ht h)
  have d4 := hid (fun w h => h4 ▸ curNum_any b t s3 w ht h)
  have d5 := hid (fun w h => h5 ▸ curWord_any b t s4 w ht h)
  have d6 := hid (fun w h => h6 ▸ curWord_any b t s5 w ht h)
  have hlt := h.lt
  have H0 := hid h
  clear h1 h2 h3 h4 h5 h6 h
  go_enter Tryd.func27, Tryd.ntmps27
  go_wp2_with fail
  refine (d1.out _ (H0.out.of_block (alloc_old hlt))).mono ?_
  rintro e w1 ⟨rfl, k1, g1⟩
  have K1 := hid k1
  have hz1 := g1.size
  have G1 := hid g1
  clear k1 g1
  go_wp2_with fail
  refine (d2.out _ K1.out).mono ?_
  rintro e w2 ⟨rfl, k2, g2⟩
  have K2 := hid k2
  have G2 := hid (grown_trans G1.out g2)
  clear k2 g2 K1 G1
  go_wp2_with fail
  refine (d3.out _ K2.out).mono ?_
  rintro e w3 ⟨rfl, k3, g3⟩
  have K3 := hid k3
  have G3 := hid (grown_trans G2.out g3)
  clear k3 g3 K2 G2
  go_wp2_with fail
  refine (d4.out _ K3.out).mono ?_
  rintro e w4 ⟨rfl, k4, g4⟩
  have K4 := hid k4
  have G4 := hid (grown_trans G3.out g4)
  clear k4 g4 K3 G3
  go_wp2_with fail
  refine (d5.out _ K4.out).mono ?_
  rintro e w5 ⟨rfl, k5, g5⟩
  have K5 := hid k5
  have G5 := hid (grown_trans G4.out g5)
  clear k5 g5 K4 G4
  go_wp2_with fail
  refine (d6.out _ K5.out).mono ?_
  rintro e w6 ⟨rfl, k6, g6⟩
  have K6 := hid k6
  have G6 := hid (grown_trans G5.out g6)
  clear k6 g6 K5 G5
  have hR : w6.heap[w.heap.size]? = some (.cells [.int .i64 0, .int .i64 0, .int .i64 0, .int .i64 0, .string ⟨#[]⟩, .string ⟨#[]⟩].toArray 32 (0, 0)) := by
    rw [G6.out.block w.heap.size (by simp) (by simp; omega)]
    exact heap_alloc_new w _
  have z0 : w6.cell? ⟨w.heap.size, 0, none⟩ = some (.int .i64 0) := by rw [Lib.cell_of_heap hR]; rfl
  have z1 : w6.cell? ⟨w.heap.size, 1, none⟩ = some (.int .i64 0) := by rw [Lib.cell_of_heap hR]; rfl
  have z2 : w6.cell? ⟨w.heap.size, 2, none⟩ = some (.int .i64 0) := by rw [Lib.cell_of_heap hR]; rfl
  have z3 : w6.cell? ⟨w.heap.size, 3, none⟩ = some (.int .i64 0) := by rw [Lib.cell_of_heap hR]; rfl
  have z4 : w6.cell? ⟨w.heap.size, 4, none⟩ = some (.string ⟨#[]⟩) := by rw [Lib.cell_of_heap hR]; rfl
  have z5 : w6.cell? ⟨w.heap.size, 5, none⟩ = some (.string ⟨#[]⟩) := by rw [Lib.cell_of_heap hR]; rfl
  have zf : ∀ j, w6.frozen? ⟨w.heap.size, j, none⟩ = false := fun j => Lib.frozen_of_heap hR j
  clear hR
  go_wp2
  refine bodyPost_ret (v := .agg #[.int .i64 q0, .int .i64 q1, .int .i64 q2, .int .i64 q3, .string q4, .string q5]) (by simp [results, Tryd.results27, go_sem, z0, z1, z2, z3, z4, z5]) rfl ⟨rfl, K6.out.of_block (put6_other (by omega) _ _ _ _ _ _), ?_⟩
  exact put6_grown (grown_trans (World.grownBy_alloc w _ _) G6.out) (Nat.le_refl _) _ _ _ _ _ _
end Go.Proofs.YticnffakngpkfaaDoor
