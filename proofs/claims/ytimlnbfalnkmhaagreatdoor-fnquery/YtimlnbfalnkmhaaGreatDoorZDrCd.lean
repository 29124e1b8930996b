/-
  What (*spec.l01Src).l05Cond draws: a contract over the seat's program.
-/
import Derived.Test.YtimlnbfalnkmhaaGreatDoorZCdRow5
import Derived.Test.YtimlnbfalnkmhaaGreatDoorZQpF4
import Derived.Test.YtimlnbfalnkmhaaGreatDoorZQuK5
namespace Go.Proofs.YtimlnbfalnkmhaaGreatDoor
open Go.RowKit
set_option linter.unusedVariables false

theorem pick_new (b n g m : Nat) (V : Value) (S : List ByteArray) (W : World) (h : Drw W b V n) (hg : g = W.heap.size) (hm : S.length = m) (h0 : 0 < m) (hm2 : m ≤ 100) :
    Calls Tryz.prog 49 #[.pointer (some ⟨b, 0, none⟩), .slice (some ⟨g, 0, none⟩) m m] (W.alloc (.cells (S.map Value.string).toArray 9)) fun e w' => ∃ s, e = .returned (.string s) ∧ s ∈ S ∧ Drw w' b V n ∧ W.grownBy w' (some b) := by
  subst hg
  have hb := (Below.refl _ W).alloc (Nat.le_refl _) (.cells (S.map Value.string).toArray 9)
  refine (pick_any b n W.heap.size m V S _ (h.below hb) hm h0 hm2 h.src.lt (heap_alloc_new W _)).mono ?_
  rintro e w' ⟨s, rfl, hs, hd, hg⟩
  exact ⟨s, rfl, hs, hd, grown_trans (grown_below hb) hg⟩
abbrev S6 : List ByteArray := [qSeq, qTime, qRun, qKind, qStep, qValue]
abbrev O6 : List ByteArray := [oEq, oNe, oLt, oLe, oGt, oGe]
abbrev O2 : List ByteArray := [oEq, oNe]
abbrev W4 : List ByteArray := [⟨#[97]⟩, ⟨#[98]⟩, ⟨#[120]⟩, ⟨#[116, 119, 111]⟩]
theorem small6 : ∀ x ∈ S6 ++ O6 ++ O2 ++ W4, x.size ≤ 20 := by decide
theorem kdT_size (k : Int) : (kdT k).size ≤ 20 := by
  rcases kd_cases k with rfl | rfl | rfl | rfl | rfl | rfl | h | h
  all_goals first | decide | (rw [kdT_out (by omega)]; decide)
set_option maxRecDepth 100000 in
set_option maxHeartbeats 4000000 in
theorem drawCond_any (b n : Nat) (V : Value) (w : World) (h : Drw w b V n) :
    Calls Tryz.prog 79 #[.pointer (some ⟨b, 0, none⟩)] w fun e w' => ∃ c, e = .returned (cdA c) ∧ CdSm c ∧ Drw w' b V n ∧ w.grownBy w' (some b) := by
  have hbw := h.src.lt
  have H := hid h
  clear h
  go_enter Tryz.func79, Tryz.ntmps79
  go_wp2_with fail
  have hbz := (Below.refl _ w).alloc (Nat.le_refl _) (.cells #[.string ⟨#[]⟩, .string ⟨#[]⟩, .string ⟨#[]⟩, .int .i64 0] 67)
  refine (pick_new b n (w.heap.size + 1) 6 V S6 _ (H.out.below hbz) (by simp) rfl (by decide) (by decide)).mono ?_
  rintro e w1 ⟨f, rfl, hf, hd, hg⟩
  have hsf : f.size ≤ 20 := small6 f (List.mem_append_left _ (List.mem_append_left _ (List.mem_append_left _ hf)))
  have M : Hid (MdC w (w1.alloc (.cells (cdL ⟨f, ⟨#[]⟩, ⟨#[]⟩, 0⟩).toArray 67)) b w1.heap.size n V ⟨f, ⟨#[]⟩, ⟨#[]⟩, 0⟩) := hid (by
    have hba := (Below.refl _ w1).alloc (Nat.le_refl _) (.cells (cdL ⟨f, ⟨#[]⟩, ⟨#[]⟩, 0⟩).toArray 67)
    have hsz := hg.size
    have hsz' : w.heap.size + 1 ≤ w1.heap.size := by simpa using hsz
    refine ⟨hd.below hba, heap_alloc_new w1 _, ?_, grown_trans (grown_trans (grown_below hbz) hg) (grown_below hba), by omega, hbw⟩
    rw [hba.block _ (by omega), hg.block _ (by simp) (by simp; omega)]
    exact heap_alloc_new w _)
  clear hbz hg hd H
  go_upto_region 2 with fail
  have M' : Hid (MdC w (w1.alloc (.cells #[.string f, .string ⟨#[]⟩, .string ⟨#[]⟩, .int .i64 0] 67)) b w1.heap.size n V ⟨f, ⟨#[]⟩, ⟨#[]⟩, 0⟩) := M
  clear M
  generalize w1.alloc (.cells #[.string f, .string ⟨#[]⟩, .string ⟨#[]⟩, .int .i64 0] 67) = W2 at *
  generalize w1.heap.size = g at *
  have cN := hid (fun W => l05Number_any f W)
  have hfk : Hid (f ∈ S6) := hid hf
  clear hf
  obtain ⟨y0, y1, y2, y3⟩ := M'.out.cells
  simp only at y0 y1 y2 y3
  go_wp2_with fail
  refine (cN.out _).mono ?_
  rintro e w3 ⟨rfl, hb3⟩
  have M3 := hid (M'.out.below hb3)
  clear M' y0 y1 y2 y3 hb3
  cases hnf : numF f with
  | true =>
    go_wp2_with fail
    refine (pick_new b n w3.heap.size 6 V O6 _ M3.out.dr rfl rfl (by decide) (by decide)).mono ?_
    rintro e w4 ⟨o, rfl, ho, hd4, hg4⟩
    have hso : o.size ≤ 20 := small6 o (List.mem_append_left _ (List.mem_append_left _ (List.mem_append_right _ ho)))
    have M4 := hid (M3.out.call hd4 hg4)
    clear hd4 hg4 M3
    obtain ⟨y0, y1, y2, y3⟩ := M4.out.cells
    simp only at y0 y1 y2 y3
    have M5 := hid (M4.out.set (c' := ⟨f, o, ⟨#[]⟩, 0⟩) 1 (.string o) rfl)
    have fz := Lib.frozen_of_heap M4.out.hd
    go_wp2_with fail
    clear y0 y1 y2 y3 fz M4
    generalize w4.setCell ⟨g, 1, none⟩ (.string o) = W5 at *
    refine (srcN_any b n V 30 _ M5.out.dr (by decide)).mono ?_
    rintro e w6 ⟨r, rfl, ⟨r0, r1, _⟩, hd6, hg6⟩
    have r2 := r1 (by decide)
    have M6 := hid (M5.out.call hd6 hg6)
    clear hd6 hg6 M5 r1
    have M7 := hid (M6.out.set (c' := ⟨f, o, ⟨#[]⟩, r⟩) 3 (.int .i64 r) rfl)
    have fz := Lib.frozen_of_heap M6.out.hd
    obtain ⟨y0, y1, y2, y3⟩ := M6.out.cells
    simp only at y0 y1 y2 y3
    go_upto_region 9 with fail
    clear y0 y1 y2 y3 fz M6
    generalize w6.setCell ⟨g, 3, none⟩ (.int .i64 r) = W8 at *
    obtain ⟨y0, y1, y2, y3⟩ := M7.out.cells
    simp only at y0 y1 y2 y3
    have fz := Lib.frozen_of_heap M7.out.hr
    have z0 : W8.cell? ⟨w.heap.size, 0, none⟩ = some (.string ⟨#[]⟩) := by rw [Lib.cell_of_heap M7.out.hr]; rfl
    have z1 : W8.cell? ⟨w.heap.size, 1, none⟩ = some (.string ⟨#[]⟩) := by rw [Lib.cell_of_heap M7.out.hr]; rfl
    have z2 : W8.cell? ⟨w.heap.size, 2, none⟩ = some (.string ⟨#[]⟩) := by rw [Lib.cell_of_heap M7.out.hr]; rfl
    have z3 : W8.cell? ⟨w.heap.size, 3, none⟩ = some (.int .i64 0) := by rw [Lib.cell_of_heap M7.out.hr]; rfl
    go_wp2_with fail
    obtain ⟨hx, hdd, hgg⟩ := M7.out.fin
    clear z0 z1 z2 z3
    generalize (((W8.setCell ⟨w.heap.size, 0, none⟩ (.string f)).setCell ⟨w.heap.size, 1, none⟩ (.string o)).setCell ⟨w.heap.size, 2, none⟩ (.string ⟨#[]⟩)).setCell ⟨w.heap.size, 3, none⟩ (.int .i64 r) = W9 at *
    have z0 : W9.cell? ⟨w.heap.size, 0, none⟩ = some (.string f) := by rw [Lib.cell_of_heap hx]; rfl
    have z1 : W9.cell? ⟨w.heap.size, 1, none⟩ = some (.string o) := by rw [Lib.cell_of_heap hx]; rfl
    have z2 : W9.cell? ⟨w.heap.size, 2, none⟩ = some (.string ⟨#[]⟩) := by rw [Lib.cell_of_heap hx]; rfl
    have z3 : W9.cell? ⟨w.heap.size, 3, none⟩ = some (.int .i64 r) := by rw [Lib.cell_of_heap hx]; rfl
    refine bodyPost_ret (v := cdA ⟨f, o, ⟨#[]⟩, r⟩) (by simp [results, Tryz.results79, go_sem, z0, z1, z2, z3]) rfl ?_
    exact ⟨⟨f, o, ⟨#[]⟩, r⟩, rfl, ⟨hsf, hso, Nat.zero_le 20, by show _ ≤ r; omega, by show r ≤ _; omega⟩, hdd, hgg⟩
  | false =>
    go_wp2_with fail
    refine (pick_new b n w3.heap.size 2 V O2 _ M3.out.dr rfl rfl (by decide) (by decide)).mono ?_
    rintro e w4 ⟨o, rfl, ho, hd4, hg4⟩
    have hso : o.size ≤ 20 := small6 o (List.mem_append_left _ (List.mem_append_right _ ho))
    have M4 := hid (M3.out.call hd4 hg4)
    clear hd4 hg4 M3
    obtain ⟨y0, y1, y2, y3⟩ := M4.out.cells
    simp only at y0 y1 y2 y3
    have M5 := hid (M4.out.set (c' := ⟨f, o, ⟨#[]⟩, 0⟩) 1 (.string o) rfl)
    have fz := Lib.frozen_of_heap M4.out.hd
    go_upto_region 6 with fail
    clear y0 y1 y2 y3 fz M4
    generalize w4.setCell ⟨g, 1, none⟩ (.string o) = W5 at *
    go_wp2_with fail
    refine (pick_new b n W5.heap.size 4 V W4 _ M5.out.dr rfl rfl (by decide) (by decide)).mono ?_
    rintro e w6 ⟨v, rfl, hv, hd6, hg6⟩
    have hsv : v.size ≤ 20 := small6 v (List.mem_append_right _ hv)
    have M6 := hid (M5.out.call hd6 hg6)
    clear hd6 hg6 M5
    have M7 := hid (M6.out.set (c' := ⟨f, o, v, 0⟩) 2 (.string v) rfl)
    have fz := Lib.frozen_of_heap M6.out.hd
    obtain ⟨y0, y1, y2, y3⟩ := M6.out.cells
    simp only at y0 y1 y2 y3
    go_upto_region 7 with fail
    clear y0 y1 y2 y3 fz M6
    generalize w6.setCell ⟨g, 2, none⟩ (.string v) = W7 at *
    obtain ⟨y0, y1, y2, y3⟩ := M7.out.cells
    simp only at y0 y1 y2 y3
    have e0 : (f.toList == [107, 105, 110, 100]) = decide (f = qKind) := lit_b f _ _ rfl
    generalize decide (f = qKind) = bk at *
    cases bk with
    | true =>
      go_wp2_with fail
      refine (srcN_any b n V 6 _ M7.out.dr (by decide)).mono ?_
      rintro e w8 ⟨r, rfl, ⟨r0, r1, _⟩, hd8, hg8⟩
      have r2 := r1 (by decide)
      have M8 := hid (M7.out.call hd8 hg8)
      clear hd8 hg8 M7 r1 y0 y1 y2 y3
      have hw : IntKind.i64.wrap (1 + r) = 1 + r := by rw [IntKind.wrap_i64]; omega
      go_wp2_with fail
      refine (specKindText_any (1 + r) w8).mono ?_
      rintro e w9 ⟨rfl, hb9⟩
      have M9 := hid (M8.out.below hb9)
      have hsk : (kdT (1 + r)).size ≤ 20 := kdT_size _
      generalize kdT (1 + r) = v2 at *
      clear hb9 M8 hw
      have M7 := hid (M9.out.set (c' := ⟨f, o, v2, 0⟩) 2 (.string v2) rfl)
      have fz := Lib.frozen_of_heap M9.out.hd
      obtain ⟨y0, y1, y2, y3⟩ := M9.out.cells
      simp only at y0 y1 y2 y3
      go_upto_region 9 with fail
      clear y0 y1 y2 y3 fz M9
      generalize w9.setCell ⟨g, 2, none⟩ (.string v2) = W9 at *
      obtain ⟨y0, y1, y2, y3⟩ := M7.out.cells
      simp only at y0 y1 y2 y3
      have fz := Lib.frozen_of_heap M7.out.hr
      have z0 : W9.cell? ⟨w.heap.size, 0, none⟩ = some (.string ⟨#[]⟩) := by rw [Lib.cell_of_heap M7.out.hr]; rfl
      have z1 : W9.cell? ⟨w.heap.size, 1, none⟩ = some (.string ⟨#[]⟩) := by rw [Lib.cell_of_heap M7.out.hr]; rfl
      have z2 : W9.cell? ⟨w.heap.size, 2, none⟩ = some (.string ⟨#[]⟩) := by rw [Lib.cell_of_heap M7.out.hr]; rfl
      have z3 : W9.cell? ⟨w.heap.size, 3, none⟩ = some (.int .i64 0) := by rw [Lib.cell_of_heap M7.out.hr]; rfl
      go_wp2_with fail
      obtain ⟨hx, hdd, hgg⟩ := M7.out.fin
      clear z0 z1 z2 z3
      generalize (((W9.setCell ⟨w.heap.size, 0, none⟩ (.string f)).setCell ⟨w.heap.size, 1, none⟩ (.string o)).setCell ⟨w.heap.size, 2, none⟩ (.string v2)).setCell ⟨w.heap.size, 3, none⟩ (.int .i64 0) = X9 at *
      have z0 : X9.cell? ⟨w.heap.size, 0, none⟩ = some (.string f) := by rw [Lib.cell_of_heap hx]; rfl
      have z1 : X9.cell? ⟨w.heap.size, 1, none⟩ = some (.string o) := by rw [Lib.cell_of_heap hx]; rfl
      have z2 : X9.cell? ⟨w.heap.size, 2, none⟩ = some (.string v2) := by rw [Lib.cell_of_heap hx]; rfl
      have z3 : X9.cell? ⟨w.heap.size, 3, none⟩ = some (.int .i64 0) := by rw [Lib.cell_of_heap hx]; rfl
      refine bodyPost_ret (v := cdA ⟨f, o, v2, 0⟩) (by simp [results, Tryz.results79, go_sem, z0, z1, z2, z3]) rfl ?_
      exact ⟨⟨f, o, v2, 0⟩, rfl, ⟨hsf, hso, hsk, by show (-2000000 : Int) ≤ 0; omega, by show (0 : Int) ≤ 2000000; omega⟩, hdd, hgg⟩
    | false =>
      go_upto_region 9 with fail
      have fz := Lib.frozen_of_heap M7.out.hr
      have z0 : W7.cell? ⟨w.heap.size, 0, none⟩ = some (.string ⟨#[]⟩) := by rw [Lib.cell_of_heap M7.out.hr]; rfl
      have z1 : W7.cell? ⟨w.heap.size, 1, none⟩ = some (.string ⟨#[]⟩) := by rw [Lib.cell_of_heap M7.out.hr]; rfl
      have z2 : W7.cell? ⟨w.heap.size, 2, none⟩ = some (.string ⟨#[]⟩) := by rw [Lib.cell_of_heap M7.out.hr]; rfl
      have z3 : W7.cell? ⟨w.heap.size, 3, none⟩ = some (.int .i64 0) := by rw [Lib.cell_of_heap M7.out.hr]; rfl
      go_wp2_with fail
      obtain ⟨hx, hdd, hgg⟩ := M7.out.fin
      clear z0 z1 z2 z3
      generalize (((W7.setCell ⟨w.heap.size, 0, none⟩ (.string f)).setCell ⟨w.heap.size, 1, none⟩ (.string o)).setCell ⟨w.heap.size, 2, none⟩ (.string v)).setCell ⟨w.heap.size, 3, none⟩ (.int .i64 0) = W9 at *
      have z0 : W9.cell? ⟨w.heap.size, 0, none⟩ = some (.string f) := by rw [Lib.cell_of_heap hx]; rfl
      have z1 : W9.cell? ⟨w.heap.size, 1, none⟩ = some (.string o) := by rw [Lib.cell_of_heap hx]; rfl
      have z2 : W9.cell? ⟨w.heap.size, 2, none⟩ = some (.string v) := by rw [Lib.cell_of_heap hx]; rfl
      have z3 : W9.cell? ⟨w.heap.size, 3, none⟩ = some (.int .i64 0) := by rw [Lib.cell_of_heap hx]; rfl
      refine bodyPost_ret (v := cdA ⟨f, o, v, 0⟩) (by simp [results, Tryz.results79, go_sem, z0, z1, z2, z3]) rfl ?_
      exact ⟨⟨f, o, v, 0⟩, rfl, ⟨hsf, hso, hsv, by show (-2000000 : Int) ≤ 0; omega, by show (0 : Int) ≤ 2000000; omega⟩, hdd, hgg⟩
end Go.Proofs.YtimlnbfalnkmhaaGreatDoor
