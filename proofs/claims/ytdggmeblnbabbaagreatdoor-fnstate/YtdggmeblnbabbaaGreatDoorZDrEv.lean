/-
  Draws: what (*spec.l01Src).l02Event answers: some event, its texts short: a contract over the seat's program.
-/
import Derived.Test.YtdggmeblnbabbaaGreatDoorZBsIn6
import Derived.Test.YtdggmeblnbabbaaGreatDoorZEvS3
namespace Go.Proofs.YtdggmeblnbabbaaGreatDoor
open Go.RowKit

/-- Amid a draw: the source, the event in its box, the answer's own block, still zero. -/
structure Mid (w W : World) (b g : Nat) (V : Value) (n : Nat) (e : Ev) : Prop where
  dr : Drw W b V n
  he : W.heap[g]? = some (.cells e.cells.toArray 31 (0, 0))
  hr : W.heap[w.heap.size]? = some (.cells [.int .i64 0, .int .i64 0, .int .i64 0, .int .i64 0, .string ⟨#[]⟩, .string ⟨#[]⟩].toArray 31 (0, 0))
  gr : w.grownBy W (some b)
  hg : w.heap.size < g
  hb : b < w.heap.size
  sz : e.step.size ≤ 100 ∧ e.val.size ≤ 100
theorem Mid.call {w W W' : World} {b g n : Nat} {V : Value} {e : Ev} (h : Mid w W b g V n e) (hd : Drw W' b V n) (hg : W.grownBy W' (some b)) : Mid w W' b g V n e :=
  ⟨hd, (hg.block g (lt_heap h.he) (by simp; have := h.hg; have := h.hb; omega)).trans h.he, (hg.block _ (lt_heap h.hr) (by simp; have := h.hb; omega)).trans h.hr, grown_trans h.gr hg, h.hg, h.hb, h.sz⟩
theorem Mid.alloc {w W : World} {b g n : Nat} {V : Value} {e : Ev} (h : Mid w W b g V n e) (o : Obj) : Mid w (W.alloc o) b g V n e :=
  ⟨h.dr.stay (r := none) (World.grownBy_alloc W o none) (fun k hk => by cases hk), (Below.heap_alloc W o g (lt_heap h.he)).trans h.he, (Below.heap_alloc W o _ (lt_heap h.hr)).trans h.hr, grown_trans h.gr (World.grownBy_alloc W o _), h.hg, h.hb, h.sz⟩
theorem Mid.set {w W : World} {b g n i : Nat} {V : Value} {e : Ev} (h : Mid w W b g V n e) (v : Value) (e' : Ev) (he : e.cells.set i v = e'.cells) (hs : e'.step.size ≤ 100 ∧ e'.val.size ≤ 100) : Mid w (W.setCell ⟨g, i, none⟩ v) b g V n e' :=
  ⟨h.dr.stay (r := some g) (grown_set W g i v) (fun k hk => by cases hk; have := h.hg; have := h.hb; omega), by rw [← he]; exact blk_set h.he v, (Below.heap_setCell W ⟨g, i, none⟩ v _ (by show w.heap.size ≠ g; have := h.hg; omega)).trans h.hr,
   ⟨h.gr.os, h.gr.tape, h.gr.output, by simpa [World.setCell] using h.gr.size, fun k hk hr => (Below.heap_setCell W ⟨g, i, none⟩ v k (by show k ≠ g; have := h.hg; omega)).trans (h.gr.block k hk hr)⟩, h.hg, h.hb, hs⟩
/-- The end: the event laid into the answer's block. -/
theorem Mid.fin {w W : World} {b g n : Nat} {V : Value} {e : Ev} (h : Mid w W b g V n e) (x0 x1 x2 x3 x4 x5 : Value) :
    Drw ((((((W.setCell ⟨w.heap.size, 0, none⟩ x0).setCell ⟨w.heap.size, 1, none⟩ x1).setCell ⟨w.heap.size, 2, none⟩ x2).setCell ⟨w.heap.size, 3, none⟩ x3).setCell ⟨w.heap.size, 4, none⟩ x4).setCell ⟨w.heap.size, 5, none⟩ x5) b V n ∧
    w.grownBy ((((((W.setCell ⟨w.heap.size, 0, none⟩ x0).setCell ⟨w.heap.size, 1, none⟩ x1).setCell ⟨w.heap.size, 2, none⟩ x2).setCell ⟨w.heap.size, 3, none⟩ x3).setCell ⟨w.heap.size, 4, none⟩ x4).setCell ⟨w.heap.size, 5, none⟩ x5) (some b) := by
  have one : ∀ (W : World) (i : Nat) (x : Value), Drw W b V n ∧ w.grownBy W (some b) → Drw (W.setCell ⟨w.heap.size, i, none⟩ x) b V n ∧ w.grownBy (W.setCell ⟨w.heap.size, i, none⟩ x) (some b) := fun W i x hx =>
    ⟨hx.1.stay (r := some w.heap.size) (grown_set W _ i x) (fun k hk => by cases hk; exact h.hb),
     ⟨hx.2.os, hx.2.tape, hx.2.output, by simpa [World.setCell] using hx.2.size, fun k hk hr => (Below.heap_setCell W ⟨w.heap.size, i, none⟩ x k (by show k ≠ w.heap.size; omega)).trans (hx.2.block k hk hr)⟩⟩
  exact one _ _ _ (one _ _ _ (one _ _ _ (one _ _ _ (one _ _ _ (one _ _ _ ⟨h.dr, h.gr⟩)))))
theorem Mid.cells {w W : World} {b g n : Nat} {V : Value} {q0 q1 q2 q3 : Int} {q4 q5 : ByteArray} (h : Mid w W b g V n ⟨q0, q1, q2, q3, q4, q5⟩) :
    (W.cell? ⟨g, 0, none⟩ = some (.int .i64 q0) ∧ W.cell? ⟨g, 1, none⟩ = some (.int .i64 q1) ∧ W.cell? ⟨g, 2, none⟩ = some (.int .i64 q2) ∧ W.cell? ⟨g, 3, none⟩ = some (.int .i64 q3) ∧ W.cell? ⟨g, 4, none⟩ = some (.string q4) ∧ W.cell? ⟨g, 5, none⟩ = some (.string q5)) ∧ (∀ j, W.frozen? ⟨g, j, none⟩ = false) :=
  ⟨⟨by rw [Lib.cell_of_heap h.he]; rfl, by rw [Lib.cell_of_heap h.he]; rfl, by rw [Lib.cell_of_heap h.he]; rfl, by rw [Lib.cell_of_heap h.he]; rfl, by rw [Lib.cell_of_heap h.he]; rfl, by rw [Lib.cell_of_heap h.he]; rfl⟩, fun j => Lib.frozen_of_heap h.he j⟩
theorem Mid.zero {w W : World} {b g n : Nat} {V : Value} {e : Ev} (h : Mid w W b g V n e) :
    (W.cell? ⟨w.heap.size, 0, none⟩ = some (.int .i64 0) ∧ W.cell? ⟨w.heap.size, 1, none⟩ = some (.int .i64 0) ∧ W.cell? ⟨w.heap.size, 2, none⟩ = some (.int .i64 0) ∧ W.cell? ⟨w.heap.size, 3, none⟩ = some (.int .i64 0) ∧ W.cell? ⟨w.heap.size, 4, none⟩ = some (.string ⟨#[]⟩) ∧ W.cell? ⟨w.heap.size, 5, none⟩ = some (.string ⟨#[]⟩)) ∧ (∀ j, W.frozen? ⟨w.heap.size, j, none⟩ = false) ∧ g ≠ w.heap.size ∧ w.heap.size ≠ g :=
  ⟨⟨by rw [Lib.cell_of_heap h.hr]; rfl, by rw [Lib.cell_of_heap h.hr]; rfl, by rw [Lib.cell_of_heap h.hr]; rfl, by rw [Lib.cell_of_heap h.hr]; rfl, by rw [Lib.cell_of_heap h.hr]; rfl, by rw [Lib.cell_of_heap h.hr]; rfl⟩, fun j => Lib.frozen_of_heap h.hr j, by have := h.hg; omega, by have := h.hg; omega⟩
theorem short_mem {s : ByteArray} {S : List ByteArray} (hs : s ∈ S) (h : ∀ x ∈ S, x.size ≤ 100) : s.size ≤ 100 := h s hs
def zer40 : Array Value := (Lib.byteCells (List.replicate 40 0)).toArray
def zer41 : Array Value := (Lib.byteCells (List.replicate 41 0)).toArray
theorem conv40 (w : World) : (convert 22 9 (.slice (some ⟨w.heap.size, 0, none⟩) 40 40)).run Tryz.prog (w.alloc (.cells zer40 5)) = .ok (.string ⟨(List.replicate 40 0).toArray⟩) (w.alloc (.cells zer40 5)) :=
  conv_row (P := Tryz.prog) (l := List.replicate 40 0) 22 9 Tryz.underlying22 Tryz.underlying5 Tryz.underlying9 (by simp) (heap_alloc_new w _)
theorem conv41 (w : World) : (convert 22 9 (.slice (some ⟨w.heap.size, 0, none⟩) 41 41)).run Tryz.prog (w.alloc (.cells zer41 5)) = .ok (.string ⟨(List.replicate 41 0).toArray⟩) (w.alloc (.cells zer41 5)) :=
  conv_row (P := Tryz.prog) (l := List.replicate 41 0) 22 9 Tryz.underlying22 Tryz.underlying5 Tryz.underlying9 (by simp) (heap_alloc_new w _)
theorem make40 (w : World) : (Instr.makeSlice 22 (.int .i64 40) (.int .i64 40)).run Tryz.prog w = .ok (.slice (some ⟨w.heap.size, 0, none⟩) 40 40) (w.alloc (.cells zer40 5)) := by kernel_rfl
theorem make41 (w : World) : (Instr.makeSlice 22 (.int .i64 41) (.int .i64 41)).run Tryz.prog w = .ok (.slice (some ⟨w.heap.size, 0, none⟩) 41 41) (w.alloc (.cells zer41 5)) := by kernel_rfl

set_option maxHeartbeats 4000000 in
set_option maxRecDepth 100000 in
theorem drawEvent_any (b n : Nat) (V : Value) (w : World) (h : Drw w b V n) :
    Calls Tryz.prog 18 #[.pointer (some ⟨b, 0, none⟩)] w fun e w' => ∃ E : Ev, e = .returned (.agg E.cells.toArray) ∧ E.step.size ≤ 100 ∧ E.val.size ≤ 100 ∧ Drw w' b V n ∧ w.grownBy w' (some b) := by
  have hlt := h.src.lt
  have cN := hid (fun most w h h2 => srcN_any b n V most w h h2)
  have cO := hid (fun most w h h2 => one_any b n V most w h h2)
  have cP := hid (fun g m S w h hm h0 hm2 hgb hS => pick_any b n g m V S w h hm h0 hm2 hgb hS)
  have H := hid h
  clear h
  go_enter Tryz.func18, Tryz.ntmps18
  go_wp2_with fail
  refine (cN.out 30 _ (H.out.stay (r := none) (World.grownBy_alloc w _ _) (fun k hk => by cases hk)) (by decide)).mono ?_
  rintro e w1 ⟨r1, rfl, ⟨l1, u1, _⟩, hd1, hg1⟩
  have u1 := u1 (by decide)
  have hR1 : w1.heap[w.heap.size]? = _ := (hg1.block w.heap.size (by simp) (by simp; omega)).trans (heap_alloc_new w _)
  have HR1 := hid hR1
  have HD1 := hid hd1
  have HG1 := hid (grown_trans (World.grownBy_alloc w _ _) hg1)
  have hz1 : w.heap.size < w1.heap.size := lt_heap hR1
  clear hd1 hg1 hR1 H
  go_wp2_with fail
  refine (cN.out 40 _ HD1.out (by decide)).mono ?_
  rintro e w2 ⟨r2, rfl, ⟨l2, u2, _⟩, hd2, hg2⟩
  have u2 := u2 (by decide)
  have HR2 : Hid (w2.heap[w.heap.size]? = _) := (hg2.block w.heap.size (lt_heap HR1.out) (by simp; omega)).trans HR1.out
  have HD2 := hid hd2
  have HG2 := hid (grown_trans HG1.out hg2)
  have hz2 : w.heap.size < w2.heap.size := lt_heap HR2.out
  clear hd2 hg2 HD1 HG1 HR1 hz1
  go_wp2_with fail
  refine (cN.out 3 _ HD2.out (by decide)).mono ?_
  rintro e w3 ⟨r3, rfl, ⟨l3, u3, _⟩, hd3, hg3⟩
  have u3 := u3 (by decide)
  have HR3 : Hid (w3.heap[w.heap.size]? = _) := (hg3.block w.heap.size (lt_heap HR2.out) (by simp; omega)).trans HR2.out
  have HD3 := hid hd3
  have HG3 := hid (grown_trans HG2.out hg3)
  have hz3 : w.heap.size < w3.heap.size := lt_heap HR3.out
  clear hd3 hg3 HD2 HG2 HR2 hz2
  go_wp2_with fail
  refine (cN.out 6 _ HD3.out (by decide)).mono ?_
  rintro e w4 ⟨r4, rfl, ⟨l4, u4, _⟩, hd4, hg4⟩
  have u4 := u4 (by decide)
  have HR4 : Hid (w4.heap[w.heap.size]? = _) := (hg4.block w.heap.size (lt_heap HR3.out) (by simp; omega)).trans HR3.out
  have HD4 := hid hd4
  have HG4 := hid (grown_trans HG3.out hg4)
  have hz4 : w.heap.size < w4.heap.size := lt_heap HR4.out
  clear hd4 hg4 HD3 HG3 HR3 hz3
  have M : Hid (Mid w (w4.alloc (.cells [.int .i64 (1 + r1), .int .i64 r2, .int .i64 (1 + r3), .int .i64 (1 + r4), .string ⟨#[]⟩, .string ⟨#[]⟩].toArray 31)) b w4.heap.size V n ⟨1 + r1, r2, 1 + r3, 1 + r4, ⟨#[]⟩, ⟨#[]⟩⟩) :=
    ⟨HD4.out.stay (r := none) (World.grownBy_alloc w4 _ none) (fun k hk => by cases hk), heap_alloc_new w4 _, (Below.heap_alloc w4 _ _ hz4).trans HR4.out, grown_trans HG4.out (World.grownBy_alloc w4 _ _), hz4, hlt, ⟨Nat.zero_le _, Nat.zero_le _⟩⟩
  clear HD4 HG4 HR4
  have hr4 : r4 = 0 ∨ r4 = 1 ∨ r4 = 2 ∨ r4 = 3 ∨ r4 = 4 ∨ r4 = 5 := by omega
  rcases hr4 with rfl | rfl | rfl | rfl | rfl | rfl
  · have M : Hid (Mid w (w4.alloc (.cells [.int .i64 (1 + r1), .int .i64 r2, .int .i64 (1 + r3), .int .i64 1, .string ⟨#[]⟩, .string ⟨#[]⟩].toArray 31)) b w4.heap.size V n ⟨1 + r1, r2, 1 + r3, 1, ⟨#[]⟩, ⟨#[]⟩⟩) := M.out
    go_wp2_with fail
    generalize w4.alloc (.cells [.int .i64 (1 + r1), .int .i64 r2, .int .i64 (1 + r3), .int .i64 1, .string ⟨#[]⟩, .string ⟨#[]⟩].toArray 31) = w4a at *
    generalize w4.heap.size = g at *
    refine (cO.out 30 _ M.out.dr (by decide)).mono ?_
    rintro e w5 ⟨ro, rfl, hd5, hg5⟩
    have M' := hid (M.out.call hd5 hg5)
    clear M hd5 hg5
    have M := M'
    clear M'
    cases ro with
    | false =>
      obtain ⟨⟨y0, y1, y2, y3, y4, y5⟩, yf⟩ := M.out.cells
      obtain ⟨⟨z0, z1, z2, z3, z4, z5⟩, zf, zg, zg'⟩ := M.out.zero
      go_wp2
      refine bodyPost_ret (v := .agg #[.int .i64 (1 + r1), .int .i64 (r2), .int .i64 (1 + r3), .int .i64 (1), .string ⟨#[]⟩, .string ⟨#[]⟩]) (by simp [results, Tryz.results18, go_sem, z0, z1, z2, z3, z4, z5]) rfl ?_
      have MF := M.out
      exact ⟨⟨1 + r1, r2, 1 + r3, 1, ⟨#[]⟩, ⟨#[]⟩⟩, rfl, MF.sz.1, MF.sz.2, (MF.fin _ _ _ _ _ _).1, (MF.fin _ _ _ _ _ _).2⟩
    | true =>
      go_wp2_with fail
      refine (cN.out 5 _ M.out.dr (by decide)).mono ?_
      rintro e w6 ⟨r6, rfl, ⟨l6, u6, _⟩, hd6, hg6⟩
      have u6 := u6 (by decide)
      have M' := hid (M.out.call hd6 hg6)
      clear M hd6 hg6
      have M := M'
      clear M'
      have hr6 : r6 = 0 ∨ r6 = 1 ∨ r6 = 2 ∨ r6 = 3 ∨ r6 = 4 := by omega
      rcases hr6 with rfl | rfl | rfl | rfl | rfl
      · go_wp2_with fail
        have hN := heap_alloc_new w6 (.cells (([0, 1000000, 1000001] : List Int).map (Value.int .i64)).toArray 2)
        refine (cN.out 3 _ (M.out.alloc _).dr (by decide)).mono ?_
        rintro e w7 ⟨r7, rfl, ⟨l7, u7, _⟩, hd7, hg7⟩
        have u7 := u7 (by decide)
        have M' := hid ((M.out.alloc _).call hd7 hg7)
        have hN7 := (hg7.block w6.heap.size (by simp) (by simp; have h1 := M.out.dr.src.lt; omega)).trans hN
        clear M hN hg7 hd7
        have M := M'
        clear M'
        obtain ⟨i, rfl⟩ := Int.eq_ofNat_of_zero_le l7
        have hi : i < (([0, 1000000, 1000001] : List Int).map (Value.int .i64)).length := by show i < 3; omega
        have hc := cell_lit hN7 hi
        rw [List.getElem_map] at hc
        generalize ([0, 1000000, 1000001] : List Int)[i]'(by show i < 3; omega) = E at *
        clear hN7 hi
        obtain ⟨⟨y0, y1, y2, y3, y4, y5⟩, yf⟩ := M.out.cells
        obtain ⟨⟨z0, z1, z2, z3, z4, z5⟩, zf, zg, zg'⟩ := M.out.zero
        go_wp2
        refine bodyPost_ret (v := .agg #[.int .i64 (E), .int .i64 (r2), .int .i64 (1 + r3), .int .i64 (1), .string ⟨#[]⟩, .string ⟨#[]⟩]) (by simp [results, Tryz.results18, go_sem, z0, z1, z2, z3, z4, z5]) rfl ?_
        have MF := M.out.set (i := 0) (.int .i64 E) ⟨E, r2, 1 + r3, 1, ⟨#[]⟩, ⟨#[]⟩⟩ rfl M.out.sz
        exact ⟨⟨E, r2, 1 + r3, 1, ⟨#[]⟩, ⟨#[]⟩⟩, rfl, MF.sz.1, MF.sz.2, (MF.fin _ _ _ _ _ _).1, (MF.fin _ _ _ _ _ _).2⟩
      · go_wp2_with fail
        have hN := heap_alloc_new w6 (.cells (([-1, 1000000, 1000001] : List Int).map (Value.int .i64)).toArray 2)
        refine (cN.out 3 _ (M.out.alloc _).dr (by decide)).mono ?_
        rintro e w7 ⟨r7, rfl, ⟨l7, u7, _⟩, hd7, hg7⟩
        have u7 := u7 (by decide)
        have M' := hid ((M.out.alloc _).call hd7 hg7)
        have hN7 := (hg7.block w6.heap.size (by simp) (by simp; have h1 := M.out.dr.src.lt; omega)).trans hN
        clear M hN hg7 hd7
        have M := M'
        clear M'
        obtain ⟨i, rfl⟩ := Int.eq_ofNat_of_zero_le l7
        have hi : i < (([-1, 1000000, 1000001] : List Int).map (Value.int .i64)).length := by show i < 3; omega
        have hc := cell_lit hN7 hi
        rw [List.getElem_map] at hc
        generalize ([-1, 1000000, 1000001] : List Int)[i]'(by show i < 3; omega) = E at *
        clear hN7 hi
        obtain ⟨⟨y0, y1, y2, y3, y4, y5⟩, yf⟩ := M.out.cells
        obtain ⟨⟨z0, z1, z2, z3, z4, z5⟩, zf, zg, zg'⟩ := M.out.zero
        go_wp2
        refine bodyPost_ret (v := .agg #[.int .i64 (1 + r1), .int .i64 (E), .int .i64 (1 + r3), .int .i64 (1), .string ⟨#[]⟩, .string ⟨#[]⟩]) (by simp [results, Tryz.results18, go_sem, z0, z1, z2, z3, z4, z5]) rfl ?_
        have MF := M.out.set (i := 1) (.int .i64 E) ⟨1 + r1, E, 1 + r3, 1, ⟨#[]⟩, ⟨#[]⟩⟩ rfl M.out.sz
        exact ⟨⟨1 + r1, E, 1 + r3, 1, ⟨#[]⟩, ⟨#[]⟩⟩, rfl, MF.sz.1, MF.sz.2, (MF.fin _ _ _ _ _ _).1, (MF.fin _ _ _ _ _ _).2⟩
      · go_wp2_with fail
        have hN := heap_alloc_new w6 (.cells (([0, 7] : List Int).map (Value.int .i64)).toArray 2)
        refine (cN.out 2 _ (M.out.alloc _).dr (by decide)).mono ?_
        rintro e w7 ⟨r7, rfl, ⟨l7, u7, _⟩, hd7, hg7⟩
        have u7 := u7 (by decide)
        have M' := hid ((M.out.alloc _).call hd7 hg7)
        have hN7 := (hg7.block w6.heap.size (by simp) (by simp; have h1 := M.out.dr.src.lt; omega)).trans hN
        clear M hN hg7 hd7
        have M := M'
        clear M'
        obtain ⟨i, rfl⟩ := Int.eq_ofNat_of_zero_le l7
        have hi : i < (([0, 7] : List Int).map (Value.int .i64)).length := by show i < 2; omega
        have hc := cell_lit hN7 hi
        rw [List.getElem_map] at hc
        generalize ([0, 7] : List Int)[i]'(by show i < 2; omega) = E at *
        clear hN7 hi
        obtain ⟨⟨y0, y1, y2, y3, y4, y5⟩, yf⟩ := M.out.cells
        obtain ⟨⟨z0, z1, z2, z3, z4, z5⟩, zf, zg, zg'⟩ := M.out.zero
        go_wp2
        refine bodyPost_ret (v := .agg #[.int .i64 (1 + r1), .int .i64 (r2), .int .i64 (1 + r3), .int .i64 (E), .string ⟨#[]⟩, .string ⟨#[]⟩]) (by simp [results, Tryz.results18, go_sem, z0, z1, z2, z3, z4, z5]) rfl ?_
        have MF := M.out.set (i := 3) (.int .i64 E) ⟨1 + r1, r2, 1 + r3, E, ⟨#[]⟩, ⟨#[]⟩⟩ rfl M.out.sz
        exact ⟨⟨1 + r1, r2, 1 + r3, E, ⟨#[]⟩, ⟨#[]⟩⟩, rfl, MF.sz.1, MF.sz.2, (MF.fin _ _ _ _ _ _).1, (MF.fin _ _ _ _ _ _).2⟩
      · go_wp2_with fail
        refine (cN.out 2 _ M.out.dr (by decide)).mono ?_
        rintro e w7 ⟨r7, rfl, ⟨l7, u7, _⟩, hd7, hg7⟩
        have u7 := u7 (by decide)
        have M' := hid (M.out.call hd7 hg7)
        clear M hd7 hg7
        have M := M'
        clear M'
        have hr7 : r7 = 0 ∨ r7 = 1 := by omega
        rcases hr7 with rfl | rfl
        · have hmk := make40 w7
          have hcv := conv40 w7
          have hZ : (⟨(List.replicate 40 0).toArray⟩ : ByteArray).size ≤ 100 := by decide
          generalize (⟨(List.replicate 40 0).toArray⟩ : ByteArray) = Z at *
          generalize zer40 = ZZ at *
          have M' := hid (M.out.alloc (.cells ZZ 5))
          obtain ⟨⟨y0, y1, y2, y3, y4, y5⟩, yf⟩ := M'.out.cells
          obtain ⟨⟨z0, z1, z2, z3, z4, z5⟩, zf, zg, zg'⟩ := M'.out.zero
          go_wp2
          refine bodyPost_ret (v := .agg #[.int .i64 (1 + r1), .int .i64 (r2), .int .i64 (1 + r3), .int .i64 (1), .string ⟨#[]⟩, .string Z]) (by simp [results, Tryz.results18, go_sem, z0, z1, z2, z3, z4, z5]) rfl ?_
          have MF := M'.out.set (i := 5) (.string Z) ⟨1 + r1, r2, 1 + r3, 1, ⟨#[]⟩, Z⟩ rfl ⟨M.out.sz.1, hZ⟩
          exact ⟨⟨1 + r1, r2, 1 + r3, 1, ⟨#[]⟩, Z⟩, rfl, MF.sz.1, MF.sz.2, (MF.fin _ _ _ _ _ _).1, (MF.fin _ _ _ _ _ _).2⟩
        · have hmk := make41 w7
          have hcv := conv41 w7
          have hZ : (⟨(List.replicate 41 0).toArray⟩ : ByteArray).size ≤ 100 := by decide
          generalize (⟨(List.replicate 41 0).toArray⟩ : ByteArray) = Z at *
          generalize zer41 = ZZ at *
          have M' := hid (M.out.alloc (.cells ZZ 5))
          obtain ⟨⟨y0, y1, y2, y3, y4, y5⟩, yf⟩ := M'.out.cells
          obtain ⟨⟨z0, z1, z2, z3, z4, z5⟩, zf, zg, zg'⟩ := M'.out.zero
          go_wp2
          refine bodyPost_ret (v := .agg #[.int .i64 (1 + r1), .int .i64 (r2), .int .i64 (1 + r3), .int .i64 (1), .string ⟨#[]⟩, .string Z]) (by simp [results, Tryz.results18, go_sem, z0, z1, z2, z3, z4, z5]) rfl ?_
          have MF := M'.out.set (i := 5) (.string Z) ⟨1 + r1, r2, 1 + r3, 1, ⟨#[]⟩, Z⟩ rfl ⟨M.out.sz.1, hZ⟩
          exact ⟨⟨1 + r1, r2, 1 + r3, 1, ⟨#[]⟩, Z⟩, rfl, MF.sz.1, MF.sz.2, (MF.fin _ _ _ _ _ _).1, (MF.fin _ _ _ _ _ _).2⟩
      · go_wp2_with fail
        refine (cP.out _ 3 [⟨#[]⟩, ⟨#[65]⟩, ⟨#[97]⟩] _ (M.out.alloc _).dr rfl (by decide) (by decide) (M.out.dr.src.lt) (heap_alloc_new w6 _)).mono ?_
        rintro e w7 ⟨s, rfl, hs, hd7, hg7⟩
        have hss : s.size ≤ 100 := short_mem hs (by decide)
        have M' := hid ((M.out.alloc _).call hd7 hg7)
        clear M hd7 hg7 hs
        have M := M'
        clear M'
        obtain ⟨⟨y0, y1, y2, y3, y4, y5⟩, yf⟩ := M.out.cells
        obtain ⟨⟨z0, z1, z2, z3, z4, z5⟩, zf, zg, zg'⟩ := M.out.zero
        go_wp2
        refine bodyPost_ret (v := .agg #[.int .i64 (1 + r1), .int .i64 (r2), .int .i64 (1 + r3), .int .i64 (1), .string s, .string ⟨#[]⟩]) (by simp [results, Tryz.results18, go_sem, z0, z1, z2, z3, z4, z5]) rfl ?_
        have MF := M.out.set (i := 4) (.string s) ⟨1 + r1, r2, 1 + r3, 1, s, ⟨#[]⟩⟩ rfl ⟨hss, M.out.sz.2⟩
        exact ⟨⟨1 + r1, r2, 1 + r3, 1, s, ⟨#[]⟩⟩, rfl, MF.sz.1, MF.sz.2, (MF.fin _ _ _ _ _ _).1, (MF.fin _ _ _ _ _ _).2⟩
  · have M : Hid (Mid w (w4.alloc (.cells [.int .i64 (1 + r1), .int .i64 r2, .int .i64 (1 + r3), .int .i64 2, .string ⟨#[]⟩, .string ⟨#[]⟩].toArray 31)) b w4.heap.size V n ⟨1 + r1, r2, 1 + r3, 2, ⟨#[]⟩, ⟨#[]⟩⟩) := M.out
    go_wp2_with fail
    have hgs : (w4.alloc (.cells [.int .i64 (1 + r1), .int .i64 r2, .int .i64 (1 + r3), .int .i64 2, .string ⟨#[]⟩, .string ⟨#[]⟩].toArray 31)).heap.size = w4.heap.size + 1 := by simp
    generalize w4.alloc (.cells [.int .i64 (1 + r1), .int .i64 r2, .int .i64 (1 + r3), .int .i64 2, .string ⟨#[]⟩, .string ⟨#[]⟩].toArray 31) = w4a at *
    generalize w4.heap.size = g at *
    refine (cP.out _ 4 [⟨#[97]⟩, ⟨#[98]⟩, ⟨#[99]⟩, ⟨#[100]⟩] _ (M.out.alloc _).dr rfl (by decide) (by decide) (by rw [← hgs]; exact M.out.dr.src.lt) (by rw [← hgs]; exact heap_alloc_new w4a _)).mono ?_
    rintro e w8 ⟨s1, rfl, hs, hd8, hg8⟩
    have hss1 : s1.size ≤ 100 := short_mem hs (by decide)
    have M' := hid ((M.out.alloc _).call hd8 hg8)
    clear M hd8 hg8 hs
    have M := M'
    clear M'
    obtain ⟨⟨y0, y1, y2, y3, y4, y5⟩, yf⟩ := M.out.cells
    obtain ⟨⟨z0, z1, z2, z3, z4, z5⟩, zf, zg, zg'⟩ := M.out.zero
    go_wp2_with fail
    clear y0 y1 y2 y3 y4 y5 yf z0 z1 z2 z3 z4 z5 zf zg zg'
    have M' := hid (M.out.set (i := 4) (.string s1) ⟨1 + r1, r2, 1 + r3, 2, s1, ⟨#[]⟩⟩ rfl ⟨hss1, M.out.sz.2⟩)
    clear M
    have M := M'
    clear M'
    generalize w8.setCell ⟨g, 4, none⟩ (.string s1) = w8a at *
    refine (cO.out 30 _ M.out.dr (by decide)).mono ?_
    rintro e w5 ⟨ro, rfl, hd5, hg5⟩
    have M' := hid (M.out.call hd5 hg5)
    clear M hd5 hg5
    have M := M'
    clear M'
    cases ro with
    | false =>
      obtain ⟨⟨y0, y1, y2, y3, y4, y5⟩, yf⟩ := M.out.cells
      obtain ⟨⟨z0, z1, z2, z3, z4, z5⟩, zf, zg, zg'⟩ := M.out.zero
      go_wp2
      refine bodyPost_ret (v := .agg #[.int .i64 (1 + r1), .int .i64 (r2), .int .i64 (1 + r3), .int .i64 (2), .string s1, .string ⟨#[]⟩]) (by simp [results, Tryz.results18, go_sem, z0, z1, z2, z3, z4, z5]) rfl ?_
      have MF := M.out
      exact ⟨⟨1 + r1, r2, 1 + r3, 2, s1, ⟨#[]⟩⟩, rfl, MF.sz.1, MF.sz.2, (MF.fin _ _ _ _ _ _).1, (MF.fin _ _ _ _ _ _).2⟩
    | true =>
      go_wp2_with fail
      refine (cN.out 5 _ M.out.dr (by decide)).mono ?_
      rintro e w6 ⟨r6, rfl, ⟨l6, u6, _⟩, hd6, hg6⟩
      have u6 := u6 (by decide)
      have M' := hid (M.out.call hd6 hg6)
      clear M hd6 hg6
      have M := M'
      clear M'
      have hr6 : r6 = 0 ∨ r6 = 1 ∨ r6 = 2 ∨ r6 = 3 ∨ r6 = 4 := by omega
      rcases hr6 with rfl | rfl | rfl | rfl | rfl
      · go_wp2_with fail
        have hN := heap_alloc_new w6 (.cells (([0, 1000000, 1000001] : List Int).map (Value.int .i64)).toArray 2)
        refine (cN.out 3 _ (M.out.alloc _).dr (by decide)).mono ?_
        rintro e w7 ⟨r7, rfl, ⟨l7, u7, _⟩, hd7, hg7⟩
        have u7 := u7 (by decide)
        have M' := hid ((M.out.alloc _).call hd7 hg7)
        have hN7 := (hg7.block w6.heap.size (by simp) (by simp; have h1 := M.out.dr.src.lt; omega)).trans hN
        clear M hN hg7 hd7
        have M := M'
        clear M'
        obtain ⟨i, rfl⟩ := Int.eq_ofNat_of_zero_le l7
        have hi : i < (([0, 1000000, 1000001] : List Int).map (Value.int .i64)).length := by show i < 3; omega
        have hc := cell_lit hN7 hi
        rw [List.getElem_map] at hc
        generalize ([0, 1000000, 1000001] : List Int)[i]'(by show i < 3; omega) = E at *
        clear hN7 hi
        obtain ⟨⟨y0, y1, y2, y3, y4, y5⟩, yf⟩ := M.out.cells
        obtain ⟨⟨z0, z1, z2, z3, z4, z5⟩, zf, zg, zg'⟩ := M.out.zero
        go_wp2
        refine bodyPost_ret (v := .agg #[.int .i64 (E), .int .i64 (r2), .int .i64 (1 + r3), .int .i64 (2), .string s1, .string ⟨#[]⟩]) (by simp [results, Tryz.results18, go_sem, z0, z1, z2, z3, z4, z5]) rfl ?_
        have MF := M.out.set (i := 0) (.int .i64 E) ⟨E, r2, 1 + r3, 2, s1, ⟨#[]⟩⟩ rfl M.out.sz
        exact ⟨⟨E, r2, 1 + r3, 2, s1, ⟨#[]⟩⟩, rfl, MF.sz.1, MF.sz.2, (MF.fin _ _ _ _ _ _).1, (MF.fin _ _ _ _ _ _).2⟩
      · go_wp2_with fail
        have hN := heap_alloc_new w6 (.cells (([-1, 1000000, 1000001] : List Int).map (Value.int .i64)).toArray 2)
        refine (cN.out 3 _ (M.out.alloc _).dr (by decide)).mono ?_
        rintro e w7 ⟨r7, rfl, ⟨l7, u7, _⟩, hd7, hg7⟩
        have u7 := u7 (by decide)
        have M' := hid ((M.out.alloc _).call hd7 hg7)
        have hN7 := (hg7.block w6.heap.size (by simp) (by simp; have h1 := M.out.dr.src.lt; omega)).trans hN
        clear M hN hg7 hd7
        have M := M'
        clear M'
        obtain ⟨i, rfl⟩ := Int.eq_ofNat_of_zero_le l7
        have hi : i < (([-1, 1000000, 1000001] : List Int).map (Value.int .i64)).length := by show i < 3; omega
        have hc := cell_lit hN7 hi
        rw [List.getElem_map] at hc
        generalize ([-1, 1000000, 1000001] : List Int)[i]'(by show i < 3; omega) = E at *
        clear hN7 hi
        obtain ⟨⟨y0, y1, y2, y3, y4, y5⟩, yf⟩ := M.out.cells
        obtain ⟨⟨z0, z1, z2, z3, z4, z5⟩, zf, zg, zg'⟩ := M.out.zero
        go_wp2
        refine bodyPost_ret (v := .agg #[.int .i64 (1 + r1), .int .i64 (E), .int .i64 (1 + r3), .int .i64 (2), .string s1, .string ⟨#[]⟩]) (by simp [results, Tryz.results18, go_sem, z0, z1, z2, z3, z4, z5]) rfl ?_
        have MF := M.out.set (i := 1) (.int .i64 E) ⟨1 + r1, E, 1 + r3, 2, s1, ⟨#[]⟩⟩ rfl M.out.sz
        exact ⟨⟨1 + r1, E, 1 + r3, 2, s1, ⟨#[]⟩⟩, rfl, MF.sz.1, MF.sz.2, (MF.fin _ _ _ _ _ _).1, (MF.fin _ _ _ _ _ _).2⟩
      · go_wp2_with fail
        have hN := heap_alloc_new w6 (.cells (([0, 7] : List Int).map (Value.int .i64)).toArray 2)
        refine (cN.out 2 _ (M.out.alloc _).dr (by decide)).mono ?_
        rintro e w7 ⟨r7, rfl, ⟨l7, u7, _⟩, hd7, hg7⟩
        have u7 := u7 (by decide)
        have M' := hid ((M.out.alloc _).call hd7 hg7)
        have hN7 := (hg7.block w6.heap.size (by simp) (by simp; have h1 := M.out.dr.src.lt; omega)).trans hN
        clear M hN hg7 hd7
        have M := M'
        clear M'
        obtain ⟨i, rfl⟩ := Int.eq_ofNat_of_zero_le l7
        have hi : i < (([0, 7] : List Int).map (Value.int .i64)).length := by show i < 2; omega
        have hc := cell_lit hN7 hi
        rw [List.getElem_map] at hc
        generalize ([0, 7] : List Int)[i]'(by show i < 2; omega) = E at *
        clear hN7 hi
        obtain ⟨⟨y0, y1, y2, y3, y4, y5⟩, yf⟩ := M.out.cells
        obtain ⟨⟨z0, z1, z2, z3, z4, z5⟩, zf, zg, zg'⟩ := M.out.zero
        go_wp2
        refine bodyPost_ret (v := .agg #[.int .i64 (1 + r1), .int .i64 (r2), .int .i64 (1 + r3), .int .i64 (E), .string s1, .string ⟨#[]⟩]) (by simp [results, Tryz.results18, go_sem, z0, z1, z2, z3, z4, z5]) rfl ?_
        have MF := M.out.set (i := 3) (.int .i64 E) ⟨1 + r1, r2, 1 + r3, E, s1, ⟨#[]⟩⟩ rfl M.out.sz
        exact ⟨⟨1 + r1, r2, 1 + r3, E, s1, ⟨#[]⟩⟩, rfl, MF.sz.1, MF.sz.2, (MF.fin _ _ _ _ _ _).1, (MF.fin _ _ _ _ _ _).2⟩
      · go_wp2_with fail
        refine (cN.out 2 _ M.out.dr (by decide)).mono ?_
        rintro e w7 ⟨r7, rfl, ⟨l7, u7, _⟩, hd7, hg7⟩
        have u7 := u7 (by decide)
        have M' := hid (M.out.call hd7 hg7)
        clear M hd7 hg7
        have M := M'
        clear M'
        have hr7 : r7 = 0 ∨ r7 = 1 := by omega
        rcases hr7 with rfl | rfl
        · have hmk := make40 w7
          have hcv := conv40 w7
          have hZ : (⟨(List.replicate 40 0).toArray⟩ : ByteArray).size ≤ 100 := by decide
          generalize (⟨(List.replicate 40 0).toArray⟩ : ByteArray) = Z at *
          generalize zer40 = ZZ at *
          have M' := hid (M.out.alloc (.cells ZZ 5))
          obtain ⟨⟨y0, y1, y2, y3, y4, y5⟩, yf⟩ := M'.out.cells
          obtain ⟨⟨z0, z1, z2, z3, z4, z5⟩, zf, zg, zg'⟩ := M'.out.zero
          go_wp2
          refine bodyPost_ret (v := .agg #[.int .i64 (1 + r1), .int .i64 (r2), .int .i64 (1 + r3), .int .i64 (2), .string s1, .string Z]) (by simp [results, Tryz.results18, go_sem, z0, z1, z2, z3, z4, z5]) rfl ?_
          have MF := M'.out.set (i := 5) (.string Z) ⟨1 + r1, r2, 1 + r3, 2, s1, Z⟩ rfl ⟨M.out.sz.1, hZ⟩
          exact ⟨⟨1 + r1, r2, 1 + r3, 2, s1, Z⟩, rfl, MF.sz.1, MF.sz.2, (MF.fin _ _ _ _ _ _).1, (MF.fin _ _ _ _ _ _).2⟩
        · have hmk := make41 w7
          have hcv := conv41 w7
          have hZ : (⟨(List.replicate 41 0).toArray⟩ : ByteArray).size ≤ 100 := by decide
          generalize (⟨(List.replicate 41 0).toArray⟩ : ByteArray) = Z at *
          generalize zer41 = ZZ at *
          have M' := hid (M.out.alloc (.cells ZZ 5))
          obtain ⟨⟨y0, y1, y2, y3, y4, y5⟩, yf⟩ := M'.out.cells
          obtain ⟨⟨z0, z1, z2, z3, z4, z5⟩, zf, zg, zg'⟩ := M'.out.zero
          go_wp2
          refine bodyPost_ret (v := .agg #[.int .i64 (1 + r1), .int .i64 (r2), .int .i64 (1 + r3), .int .i64 (2), .string s1, .string Z]) (by simp [results, Tryz.results18, go_sem, z0, z1, z2, z3, z4, z5]) rfl ?_
          have MF := M'.out.set (i := 5) (.string Z) ⟨1 + r1, r2, 1 + r3, 2, s1, Z⟩ rfl ⟨M.out.sz.1, hZ⟩
          exact ⟨⟨1 + r1, r2, 1 + r3, 2, s1, Z⟩, rfl, MF.sz.1, MF.sz.2, (MF.fin _ _ _ _ _ _).1, (MF.fin _ _ _ _ _ _).2⟩
      · go_wp2_with fail
        refine (cP.out _ 3 [⟨#[]⟩, ⟨#[65]⟩, ⟨#[97]⟩] _ (M.out.alloc _).dr rfl (by decide) (by decide) (M.out.dr.src.lt) (heap_alloc_new w6 _)).mono ?_
        rintro e w7 ⟨s, rfl, hs, hd7, hg7⟩
        have hss : s.size ≤ 100 := short_mem hs (by decide)
        have M' := hid ((M.out.alloc _).call hd7 hg7)
        clear M hd7 hg7 hs
        have M := M'
        clear M'
        obtain ⟨⟨y0, y1, y2, y3, y4, y5⟩, yf⟩ := M.out.cells
        obtain ⟨⟨z0, z1, z2, z3, z4, z5⟩, zf, zg, zg'⟩ := M.out.zero
        go_wp2
        refine bodyPost_ret (v := .agg #[.int .i64 (1 + r1), .int .i64 (r2), .int .i64 (1 + r3), .int .i64 (2), .string s, .string ⟨#[]⟩]) (by simp [results, Tryz.results18, go_sem, z0, z1, z2, z3, z4, z5]) rfl ?_
        have MF := M.out.set (i := 4) (.string s) ⟨1 + r1, r2, 1 + r3, 2, s, ⟨#[]⟩⟩ rfl ⟨hss, M.out.sz.2⟩
        exact ⟨⟨1 + r1, r2, 1 + r3, 2, s, ⟨#[]⟩⟩, rfl, MF.sz.1, MF.sz.2, (MF.fin _ _ _ _ _ _).1, (MF.fin _ _ _ _ _ _).2⟩
  · have M : Hid (Mid w (w4.alloc (.cells [.int .i64 (1 + r1), .int .i64 r2, .int .i64 (1 + r3), .int .i64 3, .string ⟨#[]⟩, .string ⟨#[]⟩].toArray 31)) b w4.heap.size V n ⟨1 + r1, r2, 1 + r3, 3, ⟨#[]⟩, ⟨#[]⟩⟩) := M.out
    go_wp2_with fail
    have hgs : (w4.alloc (.cells [.int .i64 (1 + r1), .int .i64 r2, .int .i64 (1 + r3), .int .i64 3, .string ⟨#[]⟩, .string ⟨#[]⟩].toArray 31)).heap.size = w4.heap.size + 1 := by simp
    generalize w4.alloc (.cells [.int .i64 (1 + r1), .int .i64 r2, .int .i64 (1 + r3), .int .i64 3, .string ⟨#[]⟩, .string ⟨#[]⟩].toArray 31) = w4a at *
    generalize w4.heap.size = g at *
    refine (cP.out _ 4 [⟨#[97]⟩, ⟨#[98]⟩, ⟨#[99]⟩, ⟨#[100]⟩] _ (M.out.alloc _).dr rfl (by decide) (by decide) (by rw [← hgs]; exact M.out.dr.src.lt) (by rw [← hgs]; exact heap_alloc_new w4a _)).mono ?_
    rintro e w8 ⟨s1, rfl, hs, hd8, hg8⟩
    have hss1 : s1.size ≤ 100 := short_mem hs (by decide)
    have M' := hid ((M.out.alloc _).call hd8 hg8)
    clear M hd8 hg8 hs
    have M := M'
    clear M'
    obtain ⟨⟨y0, y1, y2, y3, y4, y5⟩, yf⟩ := M.out.cells
    obtain ⟨⟨z0, z1, z2, z3, z4, z5⟩, zf, zg, zg'⟩ := M.out.zero
    go_wp2_with fail
    clear y0 y1 y2 y3 y4 y5 yf z0 z1 z2 z3 z4 z5 zf zg zg'
    have M' := hid (M.out.set (i := 4) (.string s1) ⟨1 + r1, r2, 1 + r3, 3, s1, ⟨#[]⟩⟩ rfl ⟨hss1, M.out.sz.2⟩)
    clear M
    have M := M'
    clear M'
    generalize w8.setCell ⟨g, 4, none⟩ (.string s1) = w8a at *
    refine (cO.out 30 _ M.out.dr (by decide)).mono ?_
    rintro e w5 ⟨ro, rfl, hd5, hg5⟩
    have M' := hid (M.out.call hd5 hg5)
    clear M hd5 hg5
    have M := M'
    clear M'
    cases ro with
    | false =>
      obtain ⟨⟨y0, y1, y2, y3, y4, y5⟩, yf⟩ := M.out.cells
      obtain ⟨⟨z0, z1, z2, z3, z4, z5⟩, zf, zg, zg'⟩ := M.out.zero
      go_wp2
      refine bodyPost_ret (v := .agg #[.int .i64 (1 + r1), .int .i64 (r2), .int .i64 (1 + r3), .int .i64 (3), .string s1, .string ⟨#[]⟩]) (by simp [results, Tryz.results18, go_sem, z0, z1, z2, z3, z4, z5]) rfl ?_
      have MF := M.out
      exact ⟨⟨1 + r1, r2, 1 + r3, 3, s1, ⟨#[]⟩⟩, rfl, MF.sz.1, MF.sz.2, (MF.fin _ _ _ _ _ _).1, (MF.fin _ _ _ _ _ _).2⟩
    | true =>
      go_wp2_with fail
      refine (cN.out 5 _ M.out.dr (by decide)).mono ?_
      rintro e w6 ⟨r6, rfl, ⟨l6, u6, _⟩, hd6, hg6⟩
      have u6 := u6 (by decide)
      have M' := hid (M.out.call hd6 hg6)
      clear M hd6 hg6
      have M := M'
      clear M'
      have hr6 : r6 = 0 ∨ r6 = 1 ∨ r6 = 2 ∨ r6 = 3 ∨ r6 = 4 := by omega
      rcases hr6 with rfl | rfl | rfl | rfl | rfl
      · go_wp2_with fail
        have hN := heap_alloc_new w6 (.cells (([0, 1000000, 1000001] : List Int).map (Value.int .i64)).toArray 2)
        refine (cN.out 3 _ (M.out.alloc _).dr (by decide)).mono ?_
        rintro e w7 ⟨r7, rfl, ⟨l7, u7, _⟩, hd7, hg7⟩
        have u7 := u7 (by decide)
        have M' := hid ((M.out.alloc _).call hd7 hg7)
        have hN7 := (hg7.block w6.heap.size (by simp) (by simp; have h1 := M.out.dr.src.lt; omega)).trans hN
        clear M hN hg7 hd7
        have M := M'
        clear M'
        obtain ⟨i, rfl⟩ := Int.eq_ofNat_of_zero_le l7
        have hi : i < (([0, 1000000, 1000001] : List Int).map (Value.int .i64)).length := by show i < 3; omega
        have hc := cell_lit hN7 hi
        rw [List.getElem_map] at hc
        generalize ([0, 1000000, 1000001] : List Int)[i]'(by show i < 3; omega) = E at *
        clear hN7 hi
        obtain ⟨⟨y0, y1, y2, y3, y4, y5⟩, yf⟩ := M.out.cells
        obtain ⟨⟨z0, z1, z2, z3, z4, z5⟩, zf, zg, zg'⟩ := M.out.zero
        go_wp2
        refine bodyPost_ret (v := .agg #[.int .i64 (E), .int .i64 (r2), .int .i64 (1 + r3), .int .i64 (3), .string s1, .string ⟨#[]⟩]) (by simp [results, Tryz.results18, go_sem, z0, z1, z2, z3, z4, z5]) rfl ?_
        have MF := M.out.set (i := 0) (.int .i64 E) ⟨E, r2, 1 + r3, 3, s1, ⟨#[]⟩⟩ rfl M.out.sz
        exact ⟨⟨E, r2, 1 + r3, 3, s1, ⟨#[]⟩⟩, rfl, MF.sz.1, MF.sz.2, (MF.fin _ _ _ _ _ _).1, (MF.fin _ _ _ _ _ _).2⟩
      · go_wp2_with fail
        have hN := heap_alloc_new w6 (.cells (([-1, 1000000, 1000001] : List Int).map (Value.int .i64)).toArray 2)
        refine (cN.out 3 _ (M.out.alloc _).dr (by decide)).mono ?_
        rintro e w7 ⟨r7, rfl, ⟨l7, u7, _⟩, hd7, hg7⟩
        have u7 := u7 (by decide)
        have M' := hid ((M.out.alloc _).call hd7 hg7)
        have hN7 := (hg7.block w6.heap.size (by simp) (by simp; have h1 := M.out.dr.src.lt; omega)).trans hN
        clear M hN hg7 hd7
        have M := M'
        clear M'
        obtain ⟨i, rfl⟩ := Int.eq_ofNat_of_zero_le l7
        have hi : i < (([-1, 1000000, 1000001] : List Int).map (Value.int .i64)).length := by show i < 3; omega
        have hc := cell_lit hN7 hi
        rw [List.getElem_map] at hc
        generalize ([-1, 1000000, 1000001] : List Int)[i]'(by show i < 3; omega) = E at *
        clear hN7 hi
        obtain ⟨⟨y0, y1, y2, y3, y4, y5⟩, yf⟩ := M.out.cells
        obtain ⟨⟨z0, z1, z2, z3, z4, z5⟩, zf, zg, zg'⟩ := M.out.zero
        go_wp2
        refine bodyPost_ret (v := .agg #[.int .i64 (1 + r1), .int .i64 (E), .int .i64 (1 + r3), .int .i64 (3), .string s1, .string ⟨#[]⟩]) (by simp [results, Tryz.results18, go_sem, z0, z1, z2, z3, z4, z5]) rfl ?_
        have MF := M.out.set (i := 1) (.int .i64 E) ⟨1 + r1, E, 1 + r3, 3, s1, ⟨#[]⟩⟩ rfl M.out.sz
        exact ⟨⟨1 + r1, E, 1 + r3, 3, s1, ⟨#[]⟩⟩, rfl, MF.sz.1, MF.sz.2, (MF.fin _ _ _ _ _ _).1, (MF.fin _ _ _ _ _ _).2⟩
      · go_wp2_with fail
        have hN := heap_alloc_new w6 (.cells (([0, 7] : List Int).map (Value.int .i64)).toArray 2)
        refine (cN.out 2 _ (M.out.alloc _).dr (by decide)).mono ?_
        rintro e w7 ⟨r7, rfl, ⟨l7, u7, _⟩, hd7, hg7⟩
        have u7 := u7 (by decide)
        have M' := hid ((M.out.alloc _).call hd7 hg7)
        have hN7 := (hg7.block w6.heap.size (by simp) (by simp; have h1 := M.out.dr.src.lt; omega)).trans hN
        clear M hN hg7 hd7
        have M := M'
        clear M'
        obtain ⟨i, rfl⟩ := Int.eq_ofNat_of_zero_le l7
        have hi : i < (([0, 7] : List Int).map (Value.int .i64)).length := by show i < 2; omega
        have hc := cell_lit hN7 hi
        rw [List.getElem_map] at hc
        generalize ([0, 7] : List Int)[i]'(by show i < 2; omega) = E at *
        clear hN7 hi
        obtain ⟨⟨y0, y1, y2, y3, y4, y5⟩, yf⟩ := M.out.cells
        obtain ⟨⟨z0, z1, z2, z3, z4, z5⟩, zf, zg, zg'⟩ := M.out.zero
        go_wp2
        refine bodyPost_ret (v := .agg #[.int .i64 (1 + r1), .int .i64 (r2), .int .i64 (1 + r3), .int .i64 (E), .string s1, .string ⟨#[]⟩]) (by simp [results, Tryz.results18, go_sem, z0, z1, z2, z3, z4, z5]) rfl ?_
        have MF := M.out.set (i := 3) (.int .i64 E) ⟨1 + r1, r2, 1 + r3, E, s1, ⟨#[]⟩⟩ rfl M.out.sz
        exact ⟨⟨1 + r1, r2, 1 + r3, E, s1, ⟨#[]⟩⟩, rfl, MF.sz.1, MF.sz.2, (MF.fin _ _ _ _ _ _).1, (MF.fin _ _ _ _ _ _).2⟩
      · go_wp2_with fail
        refine (cN.out 2 _ M.out.dr (by decide)).mono ?_
        rintro e w7 ⟨r7, rfl, ⟨l7, u7, _⟩, hd7, hg7⟩
        have u7 := u7 (by decide)
        have M' := hid (M.out.call hd7 hg7)
        clear M hd7 hg7
        have M := M'
        clear M'
        have hr7 : r7 = 0 ∨ r7 = 1 := by omega
        rcases hr7 with rfl | rfl
        · have hmk := make40 w7
          have hcv := conv40 w7
          have hZ : (⟨(List.replicate 40 0).toArray⟩ : ByteArray).size ≤ 100 := by decide
          generalize (⟨(List.replicate 40 0).toArray⟩ : ByteArray) = Z at *
          generalize zer40 = ZZ at *
          have M' := hid (M.out.alloc (.cells ZZ 5))
          obtain ⟨⟨y0, y1, y2, y3, y4, y5⟩, yf⟩ := M'.out.cells
          obtain ⟨⟨z0, z1, z2, z3, z4, z5⟩, zf, zg, zg'⟩ := M'.out.zero
          go_wp2
          refine bodyPost_ret (v := .agg #[.int .i64 (1 + r1), .int .i64 (r2), .int .i64 (1 + r3), .int .i64 (3), .string s1, .string Z]) (by simp [results, Tryz.results18, go_sem, z0, z1, z2, z3, z4, z5]) rfl ?_
          have MF := M'.out.set (i := 5) (.string Z) ⟨1 + r1, r2, 1 + r3, 3, s1, Z⟩ rfl ⟨M.out.sz.1, hZ⟩
          exact ⟨⟨1 + r1, r2, 1 + r3, 3, s1, Z⟩, rfl, MF.sz.1, MF.sz.2, (MF.fin _ _ _ _ _ _).1, (MF.fin _ _ _ _ _ _).2⟩
        · have hmk := make41 w7
          have hcv := conv41 w7
          have hZ : (⟨(List.replicate 41 0).toArray⟩ : ByteArray).size ≤ 100 := by decide
          generalize (⟨(List.replicate 41 0).toArray⟩ : ByteArray) = Z at *
          generalize zer41 = ZZ at *
          have M' := hid (M.out.alloc (.cells ZZ 5))
          obtain ⟨⟨y0, y1, y2, y3, y4, y5⟩, yf⟩ := M'.out.cells
          obtain ⟨⟨z0, z1, z2, z3, z4, z5⟩, zf, zg, zg'⟩ := M'.out.zero
          go_wp2
          refine bodyPost_ret (v := .agg #[.int .i64 (1 + r1), .int .i64 (r2), .int .i64 (1 + r3), .int .i64 (3), .string s1, .string Z]) (by simp [results, Tryz.results18, go_sem, z0, z1, z2, z3, z4, z5]) rfl ?_
          have MF := M'.out.set (i := 5) (.string Z) ⟨1 + r1, r2, 1 + r3, 3, s1, Z⟩ rfl ⟨M.out.sz.1, hZ⟩
          exact ⟨⟨1 + r1, r2, 1 + r3, 3, s1, Z⟩, rfl, MF.sz.1, MF.sz.2, (MF.fin _ _ _ _ _ _).1, (MF.fin _ _ _ _ _ _).2⟩
      · go_wp2_with fail
        refine (cP.out _ 3 [⟨#[]⟩, ⟨#[65]⟩, ⟨#[97]⟩] _ (M.out.alloc _).dr rfl (by decide) (by decide) (M.out.dr.src.lt) (heap_alloc_new w6 _)).mono ?_
        rintro e w7 ⟨s, rfl, hs, hd7, hg7⟩
        have hss : s.size ≤ 100 := short_mem hs (by decide)
        have M' := hid ((M.out.alloc _).call hd7 hg7)
        clear M hd7 hg7 hs
        have M := M'
        clear M'
        obtain ⟨⟨y0, y1, y2, y3, y4, y5⟩, yf⟩ := M.out.cells
        obtain ⟨⟨z0, z1, z2, z3, z4, z5⟩, zf, zg, zg'⟩ := M.out.zero
        go_wp2
        refine bodyPost_ret (v := .agg #[.int .i64 (1 + r1), .int .i64 (r2), .int .i64 (1 + r3), .int .i64 (3), .string s, .string ⟨#[]⟩]) (by simp [results, Tryz.results18, go_sem, z0, z1, z2, z3, z4, z5]) rfl ?_
        have MF := M.out.set (i := 4) (.string s) ⟨1 + r1, r2, 1 + r3, 3, s, ⟨#[]⟩⟩ rfl ⟨hss, M.out.sz.2⟩
        exact ⟨⟨1 + r1, r2, 1 + r3, 3, s, ⟨#[]⟩⟩, rfl, MF.sz.1, MF.sz.2, (MF.fin _ _ _ _ _ _).1, (MF.fin _ _ _ _ _ _).2⟩
  · have M : Hid (Mid w (w4.alloc (.cells [.int .i64 (1 + r1), .int .i64 r2, .int .i64 (1 + r3), .int .i64 4, .string ⟨#[]⟩, .string ⟨#[]⟩].toArray 31)) b w4.heap.size V n ⟨1 + r1, r2, 1 + r3, 4, ⟨#[]⟩, ⟨#[]⟩⟩) := M.out
    go_wp2_with fail
    have hgs : (w4.alloc (.cells [.int .i64 (1 + r1), .int .i64 r2, .int .i64 (1 + r3), .int .i64 4, .string ⟨#[]⟩, .string ⟨#[]⟩].toArray 31)).heap.size = w4.heap.size + 1 := by simp
    generalize w4.alloc (.cells [.int .i64 (1 + r1), .int .i64 r2, .int .i64 (1 + r3), .int .i64 4, .string ⟨#[]⟩, .string ⟨#[]⟩].toArray 31) = w4a at *
    generalize w4.heap.size = g at *
    refine (cP.out _ 2 [⟨#[120]⟩, ⟨#[121]⟩] _ (M.out.alloc _).dr rfl (by decide) (by decide) (by rw [← hgs]; exact M.out.dr.src.lt) (by rw [← hgs]; exact heap_alloc_new w4a _)).mono ?_
    rintro e w8 ⟨s1, rfl, hs, hd8, hg8⟩
    have hss1 : s1.size ≤ 100 := short_mem hs (by decide)
    have M' := hid ((M.out.alloc _).call hd8 hg8)
    clear M hd8 hg8 hs
    have M := M'
    clear M'
    obtain ⟨⟨y0, y1, y2, y3, y4, y5⟩, yf⟩ := M.out.cells
    obtain ⟨⟨z0, z1, z2, z3, z4, z5⟩, zf, zg, zg'⟩ := M.out.zero
    go_wp2_with fail
    clear y0 y1 y2 y3 y4 y5 yf z0 z1 z2 z3 z4 z5 zf zg zg'
    have M' := hid (M.out.set (i := 4) (.string s1) ⟨1 + r1, r2, 1 + r3, 4, s1, ⟨#[]⟩⟩ rfl ⟨hss1, M.out.sz.2⟩)
    clear M
    have M := M'
    clear M'
    have hgs2 : (w8.setCell ⟨g, 4, none⟩ (.string s1)).heap.size = w8.heap.size := by simp [World.setCell]
    generalize w8.setCell ⟨g, 4, none⟩ (.string s1) = w8a at *
    refine (cP.out _ 3 [⟨#[]⟩, ⟨#[49]⟩, ⟨#[116, 119, 111]⟩] _ (M.out.alloc _).dr rfl (by decide) (by decide) (by rw [← hgs2]; exact M.out.dr.src.lt) (by rw [← hgs2]; exact heap_alloc_new w8a _)).mono ?_
    rintro e w9 ⟨s2, rfl, hs, hd9, hg9⟩
    have hss2 : s2.size ≤ 100 := short_mem hs (by decide)
    have M' := hid ((M.out.alloc _).call hd9 hg9)
    clear M hd9 hg9 hs
    have M := M'
    clear M'
    obtain ⟨⟨y0, y1, y2, y3, y4, y5⟩, yf⟩ := M.out.cells
    obtain ⟨⟨z0, z1, z2, z3, z4, z5⟩, zf, zg, zg'⟩ := M.out.zero
    go_wp2_with fail
    clear y0 y1 y2 y3 y4 y5 yf z0 z1 z2 z3 z4 z5 zf zg zg'
    have M' := hid (M.out.set (i := 5) (.string s2) ⟨1 + r1, r2, 1 + r3, 4, s1, s2⟩ rfl ⟨hss1, hss2⟩)
    clear M
    have M := M'
    clear M'
    generalize w9.setCell ⟨g, 5, none⟩ (.string s2) = w9a at *
    refine (cO.out 30 _ M.out.dr (by decide)).mono ?_
    rintro e w5 ⟨ro, rfl, hd5, hg5⟩
    have M' := hid (M.out.call hd5 hg5)
    clear M hd5 hg5
    have M := M'
    clear M'
    cases ro with
    | false =>
      obtain ⟨⟨y0, y1, y2, y3, y4, y5⟩, yf⟩ := M.out.cells
      obtain ⟨⟨z0, z1, z2, z3, z4, z5⟩, zf, zg, zg'⟩ := M.out.zero
      go_wp2
      refine bodyPost_ret (v := .agg #[.int .i64 (1 + r1), .int .i64 (r2), .int .i64 (1 + r3), .int .i64 (4), .string s1, .string s2]) (by simp [results, Tryz.results18, go_sem, z0, z1, z2, z3, z4, z5]) rfl ?_
      have MF := M.out
      exact ⟨⟨1 + r1, r2, 1 + r3, 4, s1, s2⟩, rfl, MF.sz.1, MF.sz.2, (MF.fin _ _ _ _ _ _).1, (MF.fin _ _ _ _ _ _).2⟩
    | true =>
      go_wp2_with fail
      refine (cN.out 5 _ M.out.dr (by decide)).mono ?_
      rintro e w6 ⟨r6, rfl, ⟨l6, u6, _⟩, hd6, hg6⟩
      have u6 := u6 (by decide)
      have M' := hid (M.out.call hd6 hg6)
      clear M hd6 hg6
      have M := M'
      clear M'
      have hr6 : r6 = 0 ∨ r6 = 1 ∨ r6 = 2 ∨ r6 = 3 ∨ r6 = 4 := by omega
      rcases hr6 with rfl | rfl | rfl | rfl | rfl
      · go_wp2_with fail
        have hN := heap_alloc_new w6 (.cells (([0, 1000000, 1000001] : List Int).map (Value.int .i64)).toArray 2)
        refine (cN.out 3 _ (M.out.alloc _).dr (by decide)).mono ?_
        rintro e w7 ⟨r7, rfl, ⟨l7, u7, _⟩, hd7, hg7⟩
        have u7 := u7 (by decide)
        have M' := hid ((M.out.alloc _).call hd7 hg7)
        have hN7 := (hg7.block w6.heap.size (by simp) (by simp; have h1 := M.out.dr.src.lt; omega)).trans hN
        clear M hN hg7 hd7
        have M := M'
        clear M'
        obtain ⟨i, rfl⟩ := Int.eq_ofNat_of_zero_le l7
        have hi : i < (([0, 1000000, 1000001] : List Int).map (Value.int .i64)).length := by show i < 3; omega
        have hc := cell_lit hN7 hi
        rw [List.getElem_map] at hc
        generalize ([0, 1000000, 1000001] : List Int)[i]'(by show i < 3; omega) = E at *
        clear hN7 hi
        obtain ⟨⟨y0, y1, y2, y3, y4, y5⟩, yf⟩ := M.out.cells
        obtain ⟨⟨z0, z1, z2, z3, z4, z5⟩, zf, zg, zg'⟩ := M.out.zero
        go_wp2
        refine bodyPost_ret (v := .agg #[.int .i64 (E), .int .i64 (r2), .int .i64 (1 + r3), .int .i64 (4), .string s1, .string s2]) (by simp [results, Tryz.results18, go_sem, z0, z1, z2, z3, z4, z5]) rfl ?_
        have MF := M.out.set (i := 0) (.int .i64 E) ⟨E, r2, 1 + r3, 4, s1, s2⟩ rfl M.out.sz
        exact ⟨⟨E, r2, 1 + r3, 4, s1, s2⟩, rfl, MF.sz.1, MF.sz.2, (MF.fin _ _ _ _ _ _).1, (MF.fin _ _ _ _ _ _).2⟩
      · go_wp2_with fail
        have hN := heap_alloc_new w6 (.cells (([-1, 1000000, 1000001] : List Int).map (Value.int .i64)).toArray 2)
        refine (cN.out 3 _ (M.out.alloc _).dr (by decide)).mono ?_
        rintro e w7 ⟨r7, rfl, ⟨l7, u7, _⟩, hd7, hg7⟩
        have u7 := u7 (by decide)
        have M' := hid ((M.out.alloc _).call hd7 hg7)
        have hN7 := (hg7.block w6.heap.size (by simp) (by simp; have h1 := M.out.dr.src.lt; omega)).trans hN
        clear M hN hg7 hd7
        have M := M'
        clear M'
        obtain ⟨i, rfl⟩ := Int.eq_ofNat_of_zero_le l7
        have hi : i < (([-1, 1000000, 1000001] : List Int).map (Value.int .i64)).length := by show i < 3; omega
        have hc := cell_lit hN7 hi
        rw [List.getElem_map] at hc
        generalize ([-1, 1000000, 1000001] : List Int)[i]'(by show i < 3; omega) = E at *
        clear hN7 hi
        obtain ⟨⟨y0, y1, y2, y3, y4, y5⟩, yf⟩ := M.out.cells
        obtain ⟨⟨z0, z1, z2, z3, z4, z5⟩, zf, zg, zg'⟩ := M.out.zero
        go_wp2
        refine bodyPost_ret (v := .agg #[.int .i64 (1 + r1), .int .i64 (E), .int .i64 (1 + r3), .int .i64 (4), .string s1, .string s2]) (by simp [results, Tryz.results18, go_sem, z0, z1, z2, z3, z4, z5]) rfl ?_
        have MF := M.out.set (i := 1) (.int .i64 E) ⟨1 + r1, E, 1 + r3, 4, s1, s2⟩ rfl M.out.sz
        exact ⟨⟨1 + r1, E, 1 + r3, 4, s1, s2⟩, rfl, MF.sz.1, MF.sz.2, (MF.fin _ _ _ _ _ _).1, (MF.fin _ _ _ _ _ _).2⟩
      · go_wp2_with fail
        have hN := heap_alloc_new w6 (.cells (([0, 7] : List Int).map (Value.int .i64)).toArray 2)
        refine (cN.out 2 _ (M.out.alloc _).dr (by decide)).mono ?_
        rintro e w7 ⟨r7, rfl, ⟨l7, u7, _⟩, hd7, hg7⟩
        have u7 := u7 (by decide)
        have M' := hid ((M.out.alloc _).call hd7 hg7)
        have hN7 := (hg7.block w6.heap.size (by simp) (by simp; have h1 := M.out.dr.src.lt; omega)).trans hN
        clear M hN hg7 hd7
        have M := M'
        clear M'
        obtain ⟨i, rfl⟩ := Int.eq_ofNat_of_zero_le l7
        have hi : i < (([0, 7] : List Int).map (Value.int .i64)).length := by show i < 2; omega
        have hc := cell_lit hN7 hi
        rw [List.getElem_map] at hc
        generalize ([0, 7] : List Int)[i]'(by show i < 2; omega) = E at *
        clear hN7 hi
        obtain ⟨⟨y0, y1, y2, y3, y4, y5⟩, yf⟩ := M.out.cells
        obtain ⟨⟨z0, z1, z2, z3, z4, z5⟩, zf, zg, zg'⟩ := M.out.zero
        go_wp2
        refine bodyPost_ret (v := .agg #[.int .i64 (1 + r1), .int .i64 (r2), .int .i64 (1 + r3), .int .i64 (E), .string s1, .string s2]) (by simp [results, Tryz.results18, go_sem, z0, z1, z2, z3, z4, z5]) rfl ?_
        have MF := M.out.set (i := 3) (.int .i64 E) ⟨1 + r1, r2, 1 + r3, E, s1, s2⟩ rfl M.out.sz
        exact ⟨⟨1 + r1, r2, 1 + r3, E, s1, s2⟩, rfl, MF.sz.1, MF.sz.2, (MF.fin _ _ _ _ _ _).1, (MF.fin _ _ _ _ _ _).2⟩
      · go_wp2_with fail
        refine (cN.out 2 _ M.out.dr (by decide)).mono ?_
        rintro e w7 ⟨r7, rfl, ⟨l7, u7, _⟩, hd7, hg7⟩
        have u7 := u7 (by decide)
        have M' := hid (M.out.call hd7 hg7)
        clear M hd7 hg7
        have M := M'
        clear M'
        have hr7 : r7 = 0 ∨ r7 = 1 := by omega
        rcases hr7 with rfl | rfl
        · have hmk := make40 w7
          have hcv := conv40 w7
          have hZ : (⟨(List.replicate 40 0).toArray⟩ : ByteArray).size ≤ 100 := by decide
          generalize (⟨(List.replicate 40 0).toArray⟩ : ByteArray) = Z at *
          generalize zer40 = ZZ at *
          have M' := hid (M.out.alloc (.cells ZZ 5))
          obtain ⟨⟨y0, y1, y2, y3, y4, y5⟩, yf⟩ := M'.out.cells
          obtain ⟨⟨z0, z1, z2, z3, z4, z5⟩, zf, zg, zg'⟩ := M'.out.zero
          go_wp2
          refine bodyPost_ret (v := .agg #[.int .i64 (1 + r1), .int .i64 (r2), .int .i64 (1 + r3), .int .i64 (4), .string s1, .string Z]) (by simp [results, Tryz.results18, go_sem, z0, z1, z2, z3, z4, z5]) rfl ?_
          have MF := M'.out.set (i := 5) (.string Z) ⟨1 + r1, r2, 1 + r3, 4, s1, Z⟩ rfl ⟨M.out.sz.1, hZ⟩
          exact ⟨⟨1 + r1, r2, 1 + r3, 4, s1, Z⟩, rfl, MF.sz.1, MF.sz.2, (MF.fin _ _ _ _ _ _).1, (MF.fin _ _ _ _ _ _).2⟩
        · have hmk := make41 w7
          have hcv := conv41 w7
          have hZ : (⟨(List.replicate 41 0).toArray⟩ : ByteArray).size ≤ 100 := by decide
          generalize (⟨(List.replicate 41 0).toArray⟩ : ByteArray) = Z at *
          generalize zer41 = ZZ at *
          have M' := hid (M.out.alloc (.cells ZZ 5))
          obtain ⟨⟨y0, y1, y2, y3, y4, y5⟩, yf⟩ := M'.out.cells
          obtain ⟨⟨z0, z1, z2, z3, z4, z5⟩, zf, zg, zg'⟩ := M'.out.zero
          go_wp2
          refine bodyPost_ret (v := .agg #[.int .i64 (1 + r1), .int .i64 (r2), .int .i64 (1 + r3), .int .i64 (4), .string s1, .string Z]) (by simp [results, Tryz.results18, go_sem, z0, z1, z2, z3, z4, z5]) rfl ?_
          have MF := M'.out.set (i := 5) (.string Z) ⟨1 + r1, r2, 1 + r3, 4, s1, Z⟩ rfl ⟨M.out.sz.1, hZ⟩
          exact ⟨⟨1 + r1, r2, 1 + r3, 4, s1, Z⟩, rfl, MF.sz.1, MF.sz.2, (MF.fin _ _ _ _ _ _).1, (MF.fin _ _ _ _ _ _).2⟩
      · go_wp2_with fail
        refine (cP.out _ 3 [⟨#[]⟩, ⟨#[65]⟩, ⟨#[97]⟩] _ (M.out.alloc _).dr rfl (by decide) (by decide) (M.out.dr.src.lt) (heap_alloc_new w6 _)).mono ?_
        rintro e w7 ⟨s, rfl, hs, hd7, hg7⟩
        have hss : s.size ≤ 100 := short_mem hs (by decide)
        have M' := hid ((M.out.alloc _).call hd7 hg7)
        clear M hd7 hg7 hs
        have M := M'
        clear M'
        obtain ⟨⟨y0, y1, y2, y3, y4, y5⟩, yf⟩ := M.out.cells
        obtain ⟨⟨z0, z1, z2, z3, z4, z5⟩, zf, zg, zg'⟩ := M.out.zero
        go_wp2
        refine bodyPost_ret (v := .agg #[.int .i64 (1 + r1), .int .i64 (r2), .int .i64 (1 + r3), .int .i64 (4), .string s, .string s2]) (by simp [results, Tryz.results18, go_sem, z0, z1, z2, z3, z4, z5]) rfl ?_
        have MF := M.out.set (i := 4) (.string s) ⟨1 + r1, r2, 1 + r3, 4, s, s2⟩ rfl ⟨hss, M.out.sz.2⟩
        exact ⟨⟨1 + r1, r2, 1 + r3, 4, s, s2⟩, rfl, MF.sz.1, MF.sz.2, (MF.fin _ _ _ _ _ _).1, (MF.fin _ _ _ _ _ _).2⟩
  · have M : Hid (Mid w (w4.alloc (.cells [.int .i64 (1 + r1), .int .i64 r2, .int .i64 (1 + r3), .int .i64 5, .string ⟨#[]⟩, .string ⟨#[]⟩].toArray 31)) b w4.heap.size V n ⟨1 + r1, r2, 1 + r3, 5, ⟨#[]⟩, ⟨#[]⟩⟩) := M.out
    go_wp2_with fail
    have hgs : (w4.alloc (.cells [.int .i64 (1 + r1), .int .i64 r2, .int .i64 (1 + r3), .int .i64 5, .string ⟨#[]⟩, .string ⟨#[]⟩].toArray 31)).heap.size = w4.heap.size + 1 := by simp
    generalize w4.alloc (.cells [.int .i64 (1 + r1), .int .i64 r2, .int .i64 (1 + r3), .int .i64 5, .string ⟨#[]⟩, .string ⟨#[]⟩].toArray 31) = w4a at *
    generalize w4.heap.size = g at *
    refine (cP.out _ 4 [⟨#[97]⟩, ⟨#[98]⟩, ⟨#[99]⟩, ⟨#[100]⟩] _ (M.out.alloc _).dr rfl (by decide) (by decide) (by rw [← hgs]; exact M.out.dr.src.lt) (by rw [← hgs]; exact heap_alloc_new w4a _)).mono ?_
    rintro e w8 ⟨s1, rfl, hs, hd8, hg8⟩
    have hss1 : s1.size ≤ 100 := short_mem hs (by decide)
    have M' := hid ((M.out.alloc _).call hd8 hg8)
    clear M hd8 hg8 hs
    have M := M'
    clear M'
    obtain ⟨⟨y0, y1, y2, y3, y4, y5⟩, yf⟩ := M.out.cells
    obtain ⟨⟨z0, z1, z2, z3, z4, z5⟩, zf, zg, zg'⟩ := M.out.zero
    go_wp2_with fail
    clear y0 y1 y2 y3 y4 y5 yf z0 z1 z2 z3 z4 z5 zf zg zg'
    have M' := hid (M.out.set (i := 4) (.string s1) ⟨1 + r1, r2, 1 + r3, 5, s1, ⟨#[]⟩⟩ rfl ⟨hss1, M.out.sz.2⟩)
    clear M
    have M := M'
    clear M'
    generalize w8.setCell ⟨g, 4, none⟩ (.string s1) = w8a at *
    refine (cO.out 30 _ M.out.dr (by decide)).mono ?_
    rintro e w5 ⟨ro, rfl, hd5, hg5⟩
    have M' := hid (M.out.call hd5 hg5)
    clear M hd5 hg5
    have M := M'
    clear M'
    cases ro with
    | false =>
      obtain ⟨⟨y0, y1, y2, y3, y4, y5⟩, yf⟩ := M.out.cells
      obtain ⟨⟨z0, z1, z2, z3, z4, z5⟩, zf, zg, zg'⟩ := M.out.zero
      go_wp2
      refine bodyPost_ret (v := .agg #[.int .i64 (1 + r1), .int .i64 (r2), .int .i64 (1 + r3), .int .i64 (5), .string s1, .string ⟨#[]⟩]) (by simp [results, Tryz.results18, go_sem, z0, z1, z2, z3, z4, z5]) rfl ?_
      have MF := M.out
      exact ⟨⟨1 + r1, r2, 1 + r3, 5, s1, ⟨#[]⟩⟩, rfl, MF.sz.1, MF.sz.2, (MF.fin _ _ _ _ _ _).1, (MF.fin _ _ _ _ _ _).2⟩
    | true =>
      go_wp2_with fail
      refine (cN.out 5 _ M.out.dr (by decide)).mono ?_
      rintro e w6 ⟨r6, rfl, ⟨l6, u6, _⟩, hd6, hg6⟩
      have u6 := u6 (by decide)
      have M' := hid (M.out.call hd6 hg6)
      clear M hd6 hg6
      have M := M'
      clear M'
      have hr6 : r6 = 0 ∨ r6 = 1 ∨ r6 = 2 ∨ r6 = 3 ∨ r6 = 4 := by omega
      rcases hr6 with rfl | rfl | rfl | rfl | rfl
      · go_wp2_with fail
        have hN := heap_alloc_new w6 (.cells (([0, 1000000, 1000001] : List Int).map (Value.int .i64)).toArray 2)
        refine (cN.out 3 _ (M.out.alloc _).dr (by decide)).mono ?_
        rintro e w7 ⟨r7, rfl, ⟨l7, u7, _⟩, hd7, hg7⟩
        have u7 := u7 (by decide)
        have M' := hid ((M.out.alloc _).call hd7 hg7)
        have hN7 := (hg7.block w6.heap.size (by simp) (by simp; have h1 := M.out.dr.src.lt; omega)).trans hN
        clear M hN hg7 hd7
        have M := M'
        clear M'
        obtain ⟨i, rfl⟩ := Int.eq_ofNat_of_zero_le l7
        have hi : i < (([0, 1000000, 1000001] : List Int).map (Value.int .i64)).length := by show i < 3; omega
        have hc := cell_lit hN7 hi
        rw [List.getElem_map] at hc
        generalize ([0, 1000000, 1000001] : List Int)[i]'(by show i < 3; omega) = E at *
        clear hN7 hi
        obtain ⟨⟨y0, y1, y2, y3, y4, y5⟩, yf⟩ := M.out.cells
        obtain ⟨⟨z0, z1, z2, z3, z4, z5⟩, zf, zg, zg'⟩ := M.out.zero
        go_wp2
        refine bodyPost_ret (v := .agg #[.int .i64 (E), .int .i64 (r2), .int .i64 (1 + r3), .int .i64 (5), .string s1, .string ⟨#[]⟩]) (by simp [results, Tryz.results18, go_sem, z0, z1, z2, z3, z4, z5]) rfl ?_
        have MF := M.out.set (i := 0) (.int .i64 E) ⟨E, r2, 1 + r3, 5, s1, ⟨#[]⟩⟩ rfl M.out.sz
        exact ⟨⟨E, r2, 1 + r3, 5, s1, ⟨#[]⟩⟩, rfl, MF.sz.1, MF.sz.2, (MF.fin _ _ _ _ _ _).1, (MF.fin _ _ _ _ _ _).2⟩
      · go_wp2_with fail
        have hN := heap_alloc_new w6 (.cells (([-1, 1000000, 1000001] : List Int).map (Value.int .i64)).toArray 2)
        refine (cN.out 3 _ (M.out.alloc _).dr (by decide)).mono ?_
        rintro e w7 ⟨r7, rfl, ⟨l7, u7, _⟩, hd7, hg7⟩
        have u7 := u7 (by decide)
        have M' := hid ((M.out.alloc _).call hd7 hg7)
        have hN7 := (hg7.block w6.heap.size (by simp) (by simp; have h1 := M.out.dr.src.lt; omega)).trans hN
        clear M hN hg7 hd7
        have M := M'
        clear M'
        obtain ⟨i, rfl⟩ := Int.eq_ofNat_of_zero_le l7
        have hi : i < (([-1, 1000000, 1000001] : List Int).map (Value.int .i64)).length := by show i < 3; omega
        have hc := cell_lit hN7 hi
        rw [List.getElem_map] at hc
        generalize ([-1, 1000000, 1000001] : List Int)[i]'(by show i < 3; omega) = E at *
        clear hN7 hi
        obtain ⟨⟨y0, y1, y2, y3, y4, y5⟩, yf⟩ := M.out.cells
        obtain ⟨⟨z0, z1, z2, z3, z4, z5⟩, zf, zg, zg'⟩ := M.out.zero
        go_wp2
        refine bodyPost_ret (v := .agg #[.int .i64 (1 + r1), .int .i64 (E), .int .i64 (1 + r3), .int .i64 (5), .string s1, .string ⟨#[]⟩]) (by simp [results, Tryz.results18, go_sem, z0, z1, z2, z3, z4, z5]) rfl ?_
        have MF := M.out.set (i := 1) (.int .i64 E) ⟨1 + r1, E, 1 + r3, 5, s1, ⟨#[]⟩⟩ rfl M.out.sz
        exact ⟨⟨1 + r1, E, 1 + r3, 5, s1, ⟨#[]⟩⟩, rfl, MF.sz.1, MF.sz.2, (MF.fin _ _ _ _ _ _).1, (MF.fin _ _ _ _ _ _).2⟩
      · go_wp2_with fail
        have hN := heap_alloc_new w6 (.cells (([0, 7] : List Int).map (Value.int .i64)).toArray 2)
        refine (cN.out 2 _ (M.out.alloc _).dr (by decide)).mono ?_
        rintro e w7 ⟨r7, rfl, ⟨l7, u7, _⟩, hd7, hg7⟩
        have u7 := u7 (by decide)
        have M' := hid ((M.out.alloc _).call hd7 hg7)
        have hN7 := (hg7.block w6.heap.size (by simp) (by simp; have h1 := M.out.dr.src.lt; omega)).trans hN
        clear M hN hg7 hd7
        have M := M'
        clear M'
        obtain ⟨i, rfl⟩ := Int.eq_ofNat_of_zero_le l7
        have hi : i < (([0, 7] : List Int).map (Value.int .i64)).length := by show i < 2; omega
        have hc := cell_lit hN7 hi
        rw [List.getElem_map] at hc
        generalize ([0, 7] : List Int)[i]'(by show i < 2; omega) = E at *
        clear hN7 hi
        obtain ⟨⟨y0, y1, y2, y3, y4, y5⟩, yf⟩ := M.out.cells
        obtain ⟨⟨z0, z1, z2, z3, z4, z5⟩, zf, zg, zg'⟩ := M.out.zero
        go_wp2
        refine bodyPost_ret (v := .agg #[.int .i64 (1 + r1), .int .i64 (r2), .int .i64 (1 + r3), .int .i64 (E), .string s1, .string ⟨#[]⟩]) (by simp [results, Tryz.results18, go_sem, z0, z1, z2, z3, z4, z5]) rfl ?_
        have MF := M.out.set (i := 3) (.int .i64 E) ⟨1 + r1, r2, 1 + r3, E, s1, ⟨#[]⟩⟩ rfl M.out.sz
        exact ⟨⟨1 + r1, r2, 1 + r3, E, s1, ⟨#[]⟩⟩, rfl, MF.sz.1, MF.sz.2, (MF.fin _ _ _ _ _ _).1, (MF.fin _ _ _ _ _ _).2⟩
      · go_wp2_with fail
        refine (cN.out 2 _ M.out.dr (by decide)).mono ?_
        rintro e w7 ⟨r7, rfl, ⟨l7, u7, _⟩, hd7, hg7⟩
        have u7 := u7 (by decide)
        have M' := hid (M.out.call hd7 hg7)
        clear M hd7 hg7
        have M := M'
        clear M'
        have hr7 : r7 = 0 ∨ r7 = 1 := by omega
        rcases hr7 with rfl | rfl
        · have hmk := make40 w7
          have hcv := conv40 w7
          have hZ : (⟨(List.replicate 40 0).toArray⟩ : ByteArray).size ≤ 100 := by decide
          generalize (⟨(List.replicate 40 0).toArray⟩ : ByteArray) = Z at *
          generalize zer40 = ZZ at *
          have M' := hid (M.out.alloc (.cells ZZ 5))
          obtain ⟨⟨y0, y1, y2, y3, y4, y5⟩, yf⟩ := M'.out.cells
          obtain ⟨⟨z0, z1, z2, z3, z4, z5⟩, zf, zg, zg'⟩ := M'.out.zero
          go_wp2
          refine bodyPost_ret (v := .agg #[.int .i64 (1 + r1), .int .i64 (r2), .int .i64 (1 + r3), .int .i64 (5), .string s1, .string Z]) (by simp [results, Tryz.results18, go_sem, z0, z1, z2, z3, z4, z5]) rfl ?_
          have MF := M'.out.set (i := 5) (.string Z) ⟨1 + r1, r2, 1 + r3, 5, s1, Z⟩ rfl ⟨M.out.sz.1, hZ⟩
          exact ⟨⟨1 + r1, r2, 1 + r3, 5, s1, Z⟩, rfl, MF.sz.1, MF.sz.2, (MF.fin _ _ _ _ _ _).1, (MF.fin _ _ _ _ _ _).2⟩
        · have hmk := make41 w7
          have hcv := conv41 w7
          have hZ : (⟨(List.replicate 41 0).toArray⟩ : ByteArray).size ≤ 100 := by decide
          generalize (⟨(List.replicate 41 0).toArray⟩ : ByteArray) = Z at *
          generalize zer41 = ZZ at *
          have M' := hid (M.out.alloc (.cells ZZ 5))
          obtain ⟨⟨y0, y1, y2, y3, y4, y5⟩, yf⟩ := M'.out.cells
          obtain ⟨⟨z0, z1, z2, z3, z4, z5⟩, zf, zg, zg'⟩ := M'.out.zero
          go_wp2
          refine bodyPost_ret (v := .agg #[.int .i64 (1 + r1), .int .i64 (r2), .int .i64 (1 + r3), .int .i64 (5), .string s1, .string Z]) (by simp [results, Tryz.results18, go_sem, z0, z1, z2, z3, z4, z5]) rfl ?_
          have MF := M'.out.set (i := 5) (.string Z) ⟨1 + r1, r2, 1 + r3, 5, s1, Z⟩ rfl ⟨M.out.sz.1, hZ⟩
          exact ⟨⟨1 + r1, r2, 1 + r3, 5, s1, Z⟩, rfl, MF.sz.1, MF.sz.2, (MF.fin _ _ _ _ _ _).1, (MF.fin _ _ _ _ _ _).2⟩
      · go_wp2_with fail
        refine (cP.out _ 3 [⟨#[]⟩, ⟨#[65]⟩, ⟨#[97]⟩] _ (M.out.alloc _).dr rfl (by decide) (by decide) (M.out.dr.src.lt) (heap_alloc_new w6 _)).mono ?_
        rintro e w7 ⟨s, rfl, hs, hd7, hg7⟩
        have hss : s.size ≤ 100 := short_mem hs (by decide)
        have M' := hid ((M.out.alloc _).call hd7 hg7)
        clear M hd7 hg7 hs
        have M := M'
        clear M'
        obtain ⟨⟨y0, y1, y2, y3, y4, y5⟩, yf⟩ := M.out.cells
        obtain ⟨⟨z0, z1, z2, z3, z4, z5⟩, zf, zg, zg'⟩ := M.out.zero
        go_wp2
        refine bodyPost_ret (v := .agg #[.int .i64 (1 + r1), .int .i64 (r2), .int .i64 (1 + r3), .int .i64 (5), .string s, .string ⟨#[]⟩]) (by simp [results, Tryz.results18, go_sem, z0, z1, z2, z3, z4, z5]) rfl ?_
        have MF := M.out.set (i := 4) (.string s) ⟨1 + r1, r2, 1 + r3, 5, s, ⟨#[]⟩⟩ rfl ⟨hss, M.out.sz.2⟩
        exact ⟨⟨1 + r1, r2, 1 + r3, 5, s, ⟨#[]⟩⟩, rfl, MF.sz.1, MF.sz.2, (MF.fin _ _ _ _ _ _).1, (MF.fin _ _ _ _ _ _).2⟩
  · have M : Hid (Mid w (w4.alloc (.cells [.int .i64 (1 + r1), .int .i64 r2, .int .i64 (1 + r3), .int .i64 6, .string ⟨#[]⟩, .string ⟨#[]⟩].toArray 31)) b w4.heap.size V n ⟨1 + r1, r2, 1 + r3, 6, ⟨#[]⟩, ⟨#[]⟩⟩) := M.out
    go_wp2_with fail
    generalize w4.alloc (.cells [.int .i64 (1 + r1), .int .i64 r2, .int .i64 (1 + r3), .int .i64 6, .string ⟨#[]⟩, .string ⟨#[]⟩].toArray 31) = w4a at *
    generalize w4.heap.size = g at *
    refine (cO.out 30 _ M.out.dr (by decide)).mono ?_
    rintro e w5 ⟨ro, rfl, hd5, hg5⟩
    have M' := hid (M.out.call hd5 hg5)
    clear M hd5 hg5
    have M := M'
    clear M'
    cases ro with
    | false =>
      obtain ⟨⟨y0, y1, y2, y3, y4, y5⟩, yf⟩ := M.out.cells
      obtain ⟨⟨z0, z1, z2, z3, z4, z5⟩, zf, zg, zg'⟩ := M.out.zero
      go_wp2
      refine bodyPost_ret (v := .agg #[.int .i64 (1 + r1), .int .i64 (r2), .int .i64 (1 + r3), .int .i64 (6), .string ⟨#[]⟩, .string ⟨#[]⟩]) (by simp [results, Tryz.results18, go_sem, z0, z1, z2, z3, z4, z5]) rfl ?_
      have MF := M.out
      exact ⟨⟨1 + r1, r2, 1 + r3, 6, ⟨#[]⟩, ⟨#[]⟩⟩, rfl, MF.sz.1, MF.sz.2, (MF.fin _ _ _ _ _ _).1, (MF.fin _ _ _ _ _ _).2⟩
    | true =>
      go_wp2_with fail
      refine (cN.out 5 _ M.out.dr (by decide)).mono ?_
      rintro e w6 ⟨r6, rfl, ⟨l6, u6, _⟩, hd6, hg6⟩
      have u6 := u6 (by decide)
      have M' := hid (M.out.call hd6 hg6)
      clear M hd6 hg6
      have M := M'
      clear M'
      have hr6 : r6 = 0 ∨ r6 = 1 ∨ r6 = 2 ∨ r6 = 3 ∨ r6 = 4 := by omega
      rcases hr6 with rfl | rfl | rfl | rfl | rfl
      · go_wp2_with fail
        have hN := heap_alloc_new w6 (.cells (([0, 1000000, 1000001] : List Int).map (Value.int .i64)).toArray 2)
        refine (cN.out 3 _ (M.out.alloc _).dr (by decide)).mono ?_
        rintro e w7 ⟨r7, rfl, ⟨l7, u7, _⟩, hd7, hg7⟩
        have u7 := u7 (by decide)
        have M' := hid ((M.out.alloc _).call hd7 hg7)
        have hN7 := (hg7.block w6.heap.size (by simp) (by simp; have h1 := M.out.dr.src.lt; omega)).trans hN
        clear M hN hg7 hd7
        have M := M'
        clear M'
        obtain ⟨i, rfl⟩ := Int.eq_ofNat_of_zero_le l7
        have hi : i < (([0, 1000000, 1000001] : List Int).map (Value.int .i64)).length := by show i < 3; omega
        have hc := cell_lit hN7 hi
        rw [List.getElem_map] at hc
        generalize ([0, 1000000, 1000001] : List Int)[i]'(by show i < 3; omega) = E at *
        clear hN7 hi
        obtain ⟨⟨y0, y1, y2, y3, y4, y5⟩, yf⟩ := M.out.cells
        obtain ⟨⟨z0, z1, z2, z3, z4, z5⟩, zf, zg, zg'⟩ := M.out.zero
        go_wp2
        refine bodyPost_ret (v := .agg #[.int .i64 (E), .int .i64 (r2), .int .i64 (1 + r3), .int .i64 (6), .string ⟨#[]⟩, .string ⟨#[]⟩]) (by simp [results, Tryz.results18, go_sem, z0, z1, z2, z3, z4, z5]) rfl ?_
        have MF := M.out.set (i := 0) (.int .i64 E) ⟨E, r2, 1 + r3, 6, ⟨#[]⟩, ⟨#[]⟩⟩ rfl M.out.sz
        exact ⟨⟨E, r2, 1 + r3, 6, ⟨#[]⟩, ⟨#[]⟩⟩, rfl, MF.sz.1, MF.sz.2, (MF.fin _ _ _ _ _ _).1, (MF.fin _ _ _ _ _ _).2⟩
      · go_wp2_with fail
        have hN := heap_alloc_new w6 (.cells (([-1, 1000000, 1000001] : List Int).map (Value.int .i64)).toArray 2)
        refine (cN.out 3 _ (M.out.alloc _).dr (by decide)).mono ?_
        rintro e w7 ⟨r7, rfl, ⟨l7, u7, _⟩, hd7, hg7⟩
        have u7 := u7 (by decide)
        have M' := hid ((M.out.alloc _).call hd7 hg7)
        have hN7 := (hg7.block w6.heap.size (by simp) (by simp; have h1 := M.out.dr.src.lt; omega)).trans hN
        clear M hN hg7 hd7
        have M := M'
        clear M'
        obtain ⟨i, rfl⟩ := Int.eq_ofNat_of_zero_le l7
        have hi : i < (([-1, 1000000, 1000001] : List Int).map (Value.int .i64)).length := by show i < 3; omega
        have hc := cell_lit hN7 hi
        rw [List.getElem_map] at hc
        generalize ([-1, 1000000, 1000001] : List Int)[i]'(by show i < 3; omega) = E at *
        clear hN7 hi
        obtain ⟨⟨y0, y1, y2, y3, y4, y5⟩, yf⟩ := M.out.cells
        obtain ⟨⟨z0, z1, z2, z3, z4, z5⟩, zf, zg, zg'⟩ := M.out.zero
        go_wp2
        refine bodyPost_ret (v := .agg #[.int .i64 (1 + r1), .int .i64 (E), .int .i64 (1 + r3), .int .i64 (6), .string ⟨#[]⟩, .string ⟨#[]⟩]) (by simp [results, Tryz.results18, go_sem, z0, z1, z2, z3, z4, z5]) rfl ?_
        have MF := M.out.set (i := 1) (.int .i64 E) ⟨1 + r1, E, 1 + r3, 6, ⟨#[]⟩, ⟨#[]⟩⟩ rfl M.out.sz
        exact ⟨⟨1 + r1, E, 1 + r3, 6, ⟨#[]⟩, ⟨#[]⟩⟩, rfl, MF.sz.1, MF.sz.2, (MF.fin _ _ _ _ _ _).1, (MF.fin _ _ _ _ _ _).2⟩
      · go_wp2_with fail
        have hN := heap_alloc_new w6 (.cells (([0, 7] : List Int).map (Value.int .i64)).toArray 2)
        refine (cN.out 2 _ (M.out.alloc _).dr (by decide)).mono ?_
        rintro e w7 ⟨r7, rfl, ⟨l7, u7, _⟩, hd7, hg7⟩
        have u7 := u7 (by decide)
        have M' := hid ((M.out.alloc _).call hd7 hg7)
        have hN7 := (hg7.block w6.heap.size (by simp) (by simp; have h1 := M.out.dr.src.lt; omega)).trans hN
        clear M hN hg7 hd7
        have M := M'
        clear M'
        obtain ⟨i, rfl⟩ := Int.eq_ofNat_of_zero_le l7
        have hi : i < (([0, 7] : List Int).map (Value.int .i64)).length := by show i < 2; omega
        have hc := cell_lit hN7 hi
        rw [List.getElem_map] at hc
        generalize ([0, 7] : List Int)[i]'(by show i < 2; omega) = E at *
        clear hN7 hi
        obtain ⟨⟨y0, y1, y2, y3, y4, y5⟩, yf⟩ := M.out.cells
        obtain ⟨⟨z0, z1, z2, z3, z4, z5⟩, zf, zg, zg'⟩ := M.out.zero
        go_wp2
        refine bodyPost_ret (v := .agg #[.int .i64 (1 + r1), .int .i64 (r2), .int .i64 (1 + r3), .int .i64 (E), .string ⟨#[]⟩, .string ⟨#[]⟩]) (by simp [results, Tryz.results18, go_sem, z0, z1, z2, z3, z4, z5]) rfl ?_
        have MF := M.out.set (i := 3) (.int .i64 E) ⟨1 + r1, r2, 1 + r3, E, ⟨#[]⟩, ⟨#[]⟩⟩ rfl M.out.sz
        exact ⟨⟨1 + r1, r2, 1 + r3, E, ⟨#[]⟩, ⟨#[]⟩⟩, rfl, MF.sz.1, MF.sz.2, (MF.fin _ _ _ _ _ _).1, (MF.fin _ _ _ _ _ _).2⟩
      · go_wp2_with fail
        refine (cN.out 2 _ M.out.dr (by decide)).mono ?_
        rintro e w7 ⟨r7, rfl, ⟨l7, u7, _⟩, hd7, hg7⟩
        have u7 := u7 (by decide)
        have M' := hid (M.out.call hd7 hg7)
        clear M hd7 hg7
        have M := M'
        clear M'
        have hr7 : r7 = 0 ∨ r7 = 1 := by omega
        rcases hr7 with rfl | rfl
        · have hmk := make40 w7
          have hcv := conv40 w7
          have hZ : (⟨(List.replicate 40 0).toArray⟩ : ByteArray).size ≤ 100 := by decide
          generalize (⟨(List.replicate 40 0).toArray⟩ : ByteArray) = Z at *
          generalize zer40 = ZZ at *
          have M' := hid (M.out.alloc (.cells ZZ 5))
          obtain ⟨⟨y0, y1, y2, y3, y4, y5⟩, yf⟩ := M'.out.cells
          obtain ⟨⟨z0, z1, z2, z3, z4, z5⟩, zf, zg, zg'⟩ := M'.out.zero
          go_wp2
          refine bodyPost_ret (v := .agg #[.int .i64 (1 + r1), .int .i64 (r2), .int .i64 (1 + r3), .int .i64 (6), .string ⟨#[]⟩, .string Z]) (by simp [results, Tryz.results18, go_sem, z0, z1, z2, z3, z4, z5]) rfl ?_
          have MF := M'.out.set (i := 5) (.string Z) ⟨1 + r1, r2, 1 + r3, 6, ⟨#[]⟩, Z⟩ rfl ⟨M.out.sz.1, hZ⟩
          exact ⟨⟨1 + r1, r2, 1 + r3, 6, ⟨#[]⟩, Z⟩, rfl, MF.sz.1, MF.sz.2, (MF.fin _ _ _ _ _ _).1, (MF.fin _ _ _ _ _ _).2⟩
        · have hmk := make41 w7
          have hcv := conv41 w7
          have hZ : (⟨(List.replicate 41 0).toArray⟩ : ByteArray).size ≤ 100 := by decide
          generalize (⟨(List.replicate 41 0).toArray⟩ : ByteArray) = Z at *
          generalize zer41 = ZZ at *
          have M' := hid (M.out.alloc (.cells ZZ 5))
          obtain ⟨⟨y0, y1, y2, y3, y4, y5⟩, yf⟩ := M'.out.cells
          obtain ⟨⟨z0, z1, z2, z3, z4, z5⟩, zf, zg, zg'⟩ := M'.out.zero
          go_wp2
          refine bodyPost_ret (v := .agg #[.int .i64 (1 + r1), .int .i64 (r2), .int .i64 (1 + r3), .int .i64 (6), .string ⟨#[]⟩, .string Z]) (by simp [results, Tryz.results18, go_sem, z0, z1, z2, z3, z4, z5]) rfl ?_
          have MF := M'.out.set (i := 5) (.string Z) ⟨1 + r1, r2, 1 + r3, 6, ⟨#[]⟩, Z⟩ rfl ⟨M.out.sz.1, hZ⟩
          exact ⟨⟨1 + r1, r2, 1 + r3, 6, ⟨#[]⟩, Z⟩, rfl, MF.sz.1, MF.sz.2, (MF.fin _ _ _ _ _ _).1, (MF.fin _ _ _ _ _ _).2⟩
      · go_wp2_with fail
        refine (cP.out _ 3 [⟨#[]⟩, ⟨#[65]⟩, ⟨#[97]⟩] _ (M.out.alloc _).dr rfl (by decide) (by decide) (M.out.dr.src.lt) (heap_alloc_new w6 _)).mono ?_
        rintro e w7 ⟨s, rfl, hs, hd7, hg7⟩
        have hss : s.size ≤ 100 := short_mem hs (by decide)
        have M' := hid ((M.out.alloc _).call hd7 hg7)
        clear M hd7 hg7 hs
        have M := M'
        clear M'
        obtain ⟨⟨y0, y1, y2, y3, y4, y5⟩, yf⟩ := M.out.cells
        obtain ⟨⟨z0, z1, z2, z3, z4, z5⟩, zf, zg, zg'⟩ := M.out.zero
        go_wp2
        refine bodyPost_ret (v := .agg #[.int .i64 (1 + r1), .int .i64 (r2), .int .i64 (1 + r3), .int .i64 (6), .string s, .string ⟨#[]⟩]) (by simp [results, Tryz.results18, go_sem, z0, z1, z2, z3, z4, z5]) rfl ?_
        have MF := M.out.set (i := 4) (.string s) ⟨1 + r1, r2, 1 + r3, 6, s, ⟨#[]⟩⟩ rfl ⟨hss, M.out.sz.2⟩
        exact ⟨⟨1 + r1, r2, 1 + r3, 6, s, ⟨#[]⟩⟩, rfl, MF.sz.1, MF.sz.2, (MF.fin _ _ _ _ _ _).1, (MF.fin _ _ _ _ _ _).2⟩
end Go.Proofs.YtdggmeblnbabbaaGreatDoor
