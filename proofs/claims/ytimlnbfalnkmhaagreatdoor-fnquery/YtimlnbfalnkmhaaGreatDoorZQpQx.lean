/-
  Queries: what (*spec.l05Reader).query answers, what is none: a contract over the seat's program.
-/
import Derived.Test.YtimlnbfalnkmhaaGreatDoorZSqM3
namespace Go.Proofs.YtimlnbfalnkmhaaGreatDoor
open Go.RowKit

set_option maxRecDepth 100000 in
set_option linter.unusedSimpArgs false in
set_option maxHeartbeats 8000000 in
theorem squery_fx0 {b : Nat} {sv : Value} {ws : List ByteArray} (w : World) (h : RdS w b sv ws 0 false) (hC : ¬ nw ws 0 = qCount) (hN : ¬ nw ws 0 = qFind) :
    Calls Tryz.prog 52 #[.pointer (some ⟨b, 0, none⟩)] w fun e w' => EndSQ w b sv ws (rQ ws) e w' := by
  have mixed : Tryz.prog.follows .mixedOrders = true := by kernel_rfl
  obtain ⟨sa, sc, rfl, _⟩ := h.hw
  have hbl := lt_heap h.hb
  have hln := h.ln
  have H : Hid (SQ w ((w.alloc (.cells #[.bool false, .slice none 0 0, .string ⟨#[]⟩, .string ⟨#[]⟩, .bool false, .int .i64 0] 25)).alloc (.cells #[.bool false, .slice none 0 0, .string ⟨#[]⟩, .string ⟨#[]⟩, .bool false, .int .i64 (-1)] 25)) b (.slice sa ws.length sc) ws 0 false false (.slice none 0 0) [] ⟨#[]⟩ ⟨#[]⟩ false (-1)) := hid ⟨((RdT.refl h).alloc _).alloc _, (NewB.made (w := w) (W := w) [.bool false, .slice none 0 0, .string ⟨#[]⟩, .string ⟨#[]⟩, .bool false, .int .i64 0] 25 (Nat.le_refl _)).alloc _, by have := NewB.made (w := w) (W := w.alloc (.cells #[.bool false, .slice none 0 0, .string ⟨#[]⟩, .string ⟨#[]⟩, .bool false, .int .i64 0] 25)) [.bool false, .slice none 0 0, .string ⟨#[]⟩, .string ⟨#[]⟩, .bool false, .int .i64 (-1)] 25 (by simp); simpa using this, nilOwn _ _ _ _, by simp⟩
  clear h
  generalize hR' : rQ ws = R
  have hR := hid hR'
  clear hR'
  have e0 : ((nw ws 0).toList == [99, 111, 117, 110, 116]) = decide (nw ws 0 = qCount) := lit_b _ _ _ rfl
  have e1 : ((nw ws 0).toList == [102, 105, 110, 100]) = decide (nw ws 0 = qFind) := lit_b _ _ _ rfl
  go_enter Tryz.func52, Tryz.ntmps52
  go_wp2_with fail
  generalize (w.alloc (.cells #[.bool false, .slice none 0 0, .string ⟨#[]⟩, .string ⟨#[]⟩, .bool false, .int .i64 0] 25)).alloc (.cells #[.bool false, .slice none 0 0, .string ⟨#[]⟩, .string ⟨#[]⟩, .bool false, .int .i64 (-1)] 25) = X at *
  have q0 : X.cell? ⟨w.heap.size + 1, 0, none⟩ = some (.bool false) := H.out.Q.cell 0
  have q1 : X.cell? ⟨w.heap.size + 1, 1, none⟩ = some (.slice none 0 0) := H.out.Q.cell 1
  have q2 : X.cell? ⟨w.heap.size + 1, 2, none⟩ = some (.string ⟨#[]⟩) := H.out.Q.cell 2
  have q3 : X.cell? ⟨w.heap.size + 1, 3, none⟩ = some (.string ⟨#[]⟩) := H.out.Q.cell 3
  have q4 : X.cell? ⟨w.heap.size + 1, 4, none⟩ = some (.bool false) := H.out.Q.cell 4
  have q5 : X.cell? ⟨w.heap.size + 1, 5, none⟩ = some (.int .i64 (-1)) := H.out.Q.cell 5
  have g0 := H.out.Q.frozen 0
  have g1 := H.out.Q.frozen 1
  have g2 := H.out.Q.frozen 2
  have g3 := H.out.Q.frozen 3
  have g4 := H.out.Q.frozen 4
  have g5 := H.out.Q.frozen 5
  rw [decide_eq_false hC] at e0
  rw [decide_eq_false hN] at e1
  have HC0 := hid hC
  have HN0 := hid hN
  clear hC hN
  go_wp2_with (first
    | (go_at_call 100; refine (word_any _ H.out.D.rd).mono ?_; rintro e w1 ⟨rfl, hr, hg⟩; have H1 := hid (H.out.call hr hg); clear H hr hg q0 q1 q2 q3 q4 q5 g0 g1 g2 g3 g4 g5; have q0 : w1.cell? ⟨w.heap.size + 1, 0, none⟩ = some (.bool false) := H1.out.Q.cell 0; have q1 : w1.cell? ⟨w.heap.size + 1, 1, none⟩ = some (.slice none 0 0) := H1.out.Q.cell 1; have q2 : w1.cell? ⟨w.heap.size + 1, 2, none⟩ = some (.string ⟨#[]⟩) := H1.out.Q.cell 2; have q3 : w1.cell? ⟨w.heap.size + 1, 3, none⟩ = some (.string ⟨#[]⟩) := H1.out.Q.cell 3; have q4 : w1.cell? ⟨w.heap.size + 1, 4, none⟩ = some (.bool false) := H1.out.Q.cell 4; have q5 : w1.cell? ⟨w.heap.size + 1, 5, none⟩ = some (.int .i64 (-1)) := H1.out.Q.cell 5; have g0 := H1.out.Q.frozen 0; have g1 := H1.out.Q.frozen 1; have g2 := H1.out.Q.frozen 2; have g3 := H1.out.Q.frozen 3; have g4 := H1.out.Q.frozen 4; have g5 := H1.out.Q.frozen 5; have H2 := hid (H1.out.sC false); have p0 : (w1.setCell ⟨w.heap.size + 1, 0, none⟩ (.bool false)).cell? ⟨w.heap.size + 1, 0, none⟩ = some (.bool false) := H2.out.Q.cell 0; have p1 : (w1.setCell ⟨w.heap.size + 1, 0, none⟩ (.bool false)).cell? ⟨w.heap.size + 1, 1, none⟩ = some (.slice none 0 0) := H2.out.Q.cell 1; have p2 : (w1.setCell ⟨w.heap.size + 1, 0, none⟩ (.bool false)).cell? ⟨w.heap.size + 1, 2, none⟩ = some (.string ⟨#[]⟩) := H2.out.Q.cell 2; have p3 : (w1.setCell ⟨w.heap.size + 1, 0, none⟩ (.bool false)).cell? ⟨w.heap.size + 1, 3, none⟩ = some (.string ⟨#[]⟩) := H2.out.Q.cell 3; have p4 : (w1.setCell ⟨w.heap.size + 1, 0, none⟩ (.bool false)).cell? ⟨w.heap.size + 1, 4, none⟩ = some (.bool false) := H2.out.Q.cell 4; have p5 : (w1.setCell ⟨w.heap.size + 1, 0, none⟩ (.bool false)).cell? ⟨w.heap.size + 1, 5, none⟩ = some (.int .i64 (-1)) := H2.out.Q.cell 5; have d0 := H2.out.Q.frozen 0; have d1 := H2.out.Q.frozen 1; have d2 := H2.out.Q.frozen 2; have d3 := H2.out.Q.frozen 3; have d4 := H2.out.Q.frozen 4; have d5 := H2.out.Q.frozen 5)
    | (go_at_call 101; refine (need_f _ H2.out.D.rd).mono ?_; rintro e w2 ⟨rfl, hr, hg⟩; have H3 := hid (H2.out.call hr hg); clear H2 H1 hr hg))
  clear q0 q1 q2 q3 q4 q5 g0 g1 g2 g3 g4 g5 p0 p1 p2 p3 p4 p5 d0 d1 d2 d3 d4 d5
  have H := H3
  clear H3
  generalize w2 = X at *
  have q0 : X.cell? ⟨w.heap.size + 1, 0, none⟩ = some (.bool false) := H.out.Q.cell 0
  have q1 : X.cell? ⟨w.heap.size + 1, 1, none⟩ = some (.slice none 0 0) := H.out.Q.cell 1
  have q2 : X.cell? ⟨w.heap.size + 1, 2, none⟩ = some (.string ⟨#[]⟩) := H.out.Q.cell 2
  have q3 : X.cell? ⟨w.heap.size + 1, 3, none⟩ = some (.string ⟨#[]⟩) := H.out.Q.cell 3
  have q4 : X.cell? ⟨w.heap.size + 1, 4, none⟩ = some (.bool false) := H.out.Q.cell 4
  have q5 : X.cell? ⟨w.heap.size + 1, 5, none⟩ = some (.int .i64 (-1)) := H.out.Q.cell 5
  have g0 := H.out.Q.frozen 0
  have g1 := H.out.Q.frozen 1
  have g2 := H.out.Q.frozen 2
  have g3 := H.out.Q.frozen 3
  have g4 := H.out.Q.frozen 4
  have g5 := H.out.Q.frozen 5
  go_wp2_with (go_at_call 102; refine (is_bad qWhere _ H.out.D.rd).mono ?_; rintro e w1 ⟨rfl, hr, hg⟩; have H1 := hid (H.out.call hr hg); clear H hr hg q0 q1 q2 q3 q4 q5 g0 g1 g2 g3 g4 g5; have q0 : w1.cell? ⟨w.heap.size + 1, 0, none⟩ = some (.bool false) := H1.out.Q.cell 0; have q1 : w1.cell? ⟨w.heap.size + 1, 1, none⟩ = some (.slice none 0 0) := H1.out.Q.cell 1; have q2 : w1.cell? ⟨w.heap.size + 1, 2, none⟩ = some (.string ⟨#[]⟩) := H1.out.Q.cell 2; have q3 : w1.cell? ⟨w.heap.size + 1, 3, none⟩ = some (.string ⟨#[]⟩) := H1.out.Q.cell 3; have q4 : w1.cell? ⟨w.heap.size + 1, 4, none⟩ = some (.bool false) := H1.out.Q.cell 4; have q5 : w1.cell? ⟨w.heap.size + 1, 5, none⟩ = some (.int .i64 (-1)) := H1.out.Q.cell 5; have g0 := H1.out.Q.frozen 0; have g1 := H1.out.Q.frozen 1; have g2 := H1.out.Q.frozen 2; have g3 := H1.out.Q.frozen 3; have g4 := H1.out.Q.frozen 4; have g5 := H1.out.Q.frozen 5)
  have H := H1
  clear H1 q0 q1 q2 q3 q4 q5 g0 g1 g2 g3 g4 g5
  generalize w1 = X at *
  have q0 : X.cell? ⟨w.heap.size + 1, 0, none⟩ = some (.bool false) := H.out.Q.cell 0
  have q1 : X.cell? ⟨w.heap.size + 1, 1, none⟩ = some (.slice none 0 0) := H.out.Q.cell 1
  have q2 : X.cell? ⟨w.heap.size + 1, 2, none⟩ = some (.string ⟨#[]⟩) := H.out.Q.cell 2
  have q3 : X.cell? ⟨w.heap.size + 1, 3, none⟩ = some (.string ⟨#[]⟩) := H.out.Q.cell 3
  have q4 : X.cell? ⟨w.heap.size + 1, 4, none⟩ = some (.bool false) := H.out.Q.cell 4
  have q5 : X.cell? ⟨w.heap.size + 1, 5, none⟩ = some (.int .i64 (-1)) := H.out.Q.cell 5
  have g0 := H.out.Q.frozen 0
  have g1 := H.out.Q.frozen 1
  have g2 := H.out.Q.frozen 2
  have g3 := H.out.Q.frozen 3
  have g4 := H.out.Q.frozen 4
  have g5 := H.out.Q.frozen 5
  go_wp2_with (go_at_call 102; refine (is_bad qOrder _ H.out.D.rd).mono ?_; rintro e w1 ⟨rfl, hr, hg⟩; have H1 := hid (H.out.call hr hg); clear H hr hg q0 q1 q2 q3 q4 q5 g0 g1 g2 g3 g4 g5; have q0 : w1.cell? ⟨w.heap.size + 1, 0, none⟩ = some (.bool false) := H1.out.Q.cell 0; have q1 : w1.cell? ⟨w.heap.size + 1, 1, none⟩ = some (.slice none 0 0) := H1.out.Q.cell 1; have q2 : w1.cell? ⟨w.heap.size + 1, 2, none⟩ = some (.string ⟨#[]⟩) := H1.out.Q.cell 2; have q3 : w1.cell? ⟨w.heap.size + 1, 3, none⟩ = some (.string ⟨#[]⟩) := H1.out.Q.cell 3; have q4 : w1.cell? ⟨w.heap.size + 1, 4, none⟩ = some (.bool false) := H1.out.Q.cell 4; have q5 : w1.cell? ⟨w.heap.size + 1, 5, none⟩ = some (.int .i64 (-1)) := H1.out.Q.cell 5; have g0 := H1.out.Q.frozen 0; have g1 := H1.out.Q.frozen 1; have g2 := H1.out.Q.frozen 2; have g3 := H1.out.Q.frozen 3; have g4 := H1.out.Q.frozen 4; have g5 := H1.out.Q.frozen 5)
  have H := H1
  clear H1 q0 q1 q2 q3 q4 q5 g0 g1 g2 g3 g4 g5
  generalize w1 = X at *
  have q0 : X.cell? ⟨w.heap.size + 1, 0, none⟩ = some (.bool false) := H.out.Q.cell 0
  have q1 : X.cell? ⟨w.heap.size + 1, 1, none⟩ = some (.slice none 0 0) := H.out.Q.cell 1
  have q2 : X.cell? ⟨w.heap.size + 1, 2, none⟩ = some (.string ⟨#[]⟩) := H.out.Q.cell 2
  have q3 : X.cell? ⟨w.heap.size + 1, 3, none⟩ = some (.string ⟨#[]⟩) := H.out.Q.cell 3
  have q4 : X.cell? ⟨w.heap.size + 1, 4, none⟩ = some (.bool false) := H.out.Q.cell 4
  have q5 : X.cell? ⟨w.heap.size + 1, 5, none⟩ = some (.int .i64 (-1)) := H.out.Q.cell 5
  have g0 := H.out.Q.frozen 0
  have g1 := H.out.Q.frozen 1
  have g2 := H.out.Q.frozen 2
  have g3 := H.out.Q.frozen 3
  have g4 := H.out.Q.frozen 4
  have g5 := H.out.Q.frozen 5
  go_wp2_with (go_at_call 102; refine (is_bad qLimit _ H.out.D.rd).mono ?_; rintro e w1 ⟨rfl, hr, hg⟩; have H1 := hid (H.out.call hr hg); clear H hr hg q0 q1 q2 q3 q4 q5 g0 g1 g2 g3 g4 g5; have q0 : w1.cell? ⟨w.heap.size + 1, 0, none⟩ = some (.bool false) := H1.out.Q.cell 0; have q1 : w1.cell? ⟨w.heap.size + 1, 1, none⟩ = some (.slice none 0 0) := H1.out.Q.cell 1; have q2 : w1.cell? ⟨w.heap.size + 1, 2, none⟩ = some (.string ⟨#[]⟩) := H1.out.Q.cell 2; have q3 : w1.cell? ⟨w.heap.size + 1, 3, none⟩ = some (.string ⟨#[]⟩) := H1.out.Q.cell 3; have q4 : w1.cell? ⟨w.heap.size + 1, 4, none⟩ = some (.bool false) := H1.out.Q.cell 4; have q5 : w1.cell? ⟨w.heap.size + 1, 5, none⟩ = some (.int .i64 (-1)) := H1.out.Q.cell 5; have g0 := H1.out.Q.frozen 0; have g1 := H1.out.Q.frozen 1; have g2 := H1.out.Q.frozen 2; have g3 := H1.out.Q.frozen 3; have g4 := H1.out.Q.frozen 4; have g5 := H1.out.Q.frozen 5)
  have H := H1
  clear H1 q0 q1 q2 q3 q4 q5 g0 g1 g2 g3 g4 g5
  generalize w1 = X at *
  have q0 : X.cell? ⟨w.heap.size + 1, 0, none⟩ = some (.bool false) := H.out.Q.cell 0
  have q1 : X.cell? ⟨w.heap.size + 1, 1, none⟩ = some (.slice none 0 0) := H.out.Q.cell 1
  have q2 : X.cell? ⟨w.heap.size + 1, 2, none⟩ = some (.string ⟨#[]⟩) := H.out.Q.cell 2
  have q3 : X.cell? ⟨w.heap.size + 1, 3, none⟩ = some (.string ⟨#[]⟩) := H.out.Q.cell 3
  have q4 : X.cell? ⟨w.heap.size + 1, 4, none⟩ = some (.bool false) := H.out.Q.cell 4
  have q5 : X.cell? ⟨w.heap.size + 1, 5, none⟩ = some (.int .i64 (-1)) := H.out.Q.cell 5
  have g0 := H.out.Q.frozen 0
  have g1 := H.out.Q.frozen 1
  have g2 := H.out.Q.frozen 2
  have g3 := H.out.Q.frozen 3
  have g4 := H.out.Q.frozen 4
  have g5 := H.out.Q.frozen 5
  obtain rfl : R = .error (0) := by rw [← hR.out]; simp [rQ, rCnt, rFnd, rBy, rOrd, rLim, rEnd, HC0.out, HN0.out]
  have e1 : X.cell? ⟨b, 1, none⟩ = some (.int .i64 ((0 : Nat) : Int)) := by rw [Lib.cell_of_heap H.out.D.rd.hb]; rfl
  have e2 : X.cell? ⟨b, 2, none⟩ = some (.bool true) := by rw [Lib.cell_of_heap H.out.D.rd.hb]; rfl
  have f2 : X.frozen? ⟨b, 2, none⟩ = false := Lib.frozen_of_heap H.out.D.rd.hb 2
  have e0 : X.cell? ⟨b, 0, none⟩ = some (.slice sa ws.length sc) := by rw [Lib.cell_of_heap H.out.D.rd.hb]; rfl
  go_upto_region 20 with fail
  go_region
  have H9 := hid (H.out.call (H.out.D.rd.setb true).1 (H.out.D.rd.setb true).2).drew
  clear H e0 e1 e2 f2 q0 q1 q2 q3 q4 q5 g0 g1 g2 g3 g4 g5
  generalize (X.setCell ⟨b, 2, none⟩ (.bool true)).drew = Y at *
  have q0 : Y.cell? ⟨w.heap.size + 1, 0, none⟩ = some (.bool false) := H9.out.Q.cell 0
  have q1 : Y.cell? ⟨w.heap.size + 1, 1, none⟩ = some (.slice none 0 0) := H9.out.Q.cell 1
  have q2 : Y.cell? ⟨w.heap.size + 1, 2, none⟩ = some (.string ⟨#[]⟩) := H9.out.Q.cell 2
  have q3 : Y.cell? ⟨w.heap.size + 1, 3, none⟩ = some (.string ⟨#[]⟩) := H9.out.Q.cell 3
  have q4 : Y.cell? ⟨w.heap.size + 1, 4, none⟩ = some (.bool false) := H9.out.Q.cell 4
  have q5 : Y.cell? ⟨w.heap.size + 1, 5, none⟩ = some (.int .i64 (-1)) := H9.out.Q.cell 5
  have g0 := H9.out.Q.frozen 0
  have g1 := H9.out.Q.frozen 1
  have g2 := H9.out.Q.frozen 2
  have g3 := H9.out.Q.frozen 3
  have g4 := H9.out.Q.frozen 4
  have g5 := H9.out.Q.frozen 5
  have p0 := H9.out.P.cell 0
  have p1 := H9.out.P.cell 1
  have p2 := H9.out.P.cell 2
  have p3 := H9.out.P.cell 3
  have p4 := H9.out.P.cell 4
  have p5 := H9.out.P.cell 5
  have f0 := H9.out.P.frozen 0
  have f1 := H9.out.P.frozen 1
  have f2 := H9.out.P.frozen 2
  have f3 := H9.out.P.frozen 3
  have f4 := H9.out.P.frozen 4
  have f5 := H9.out.P.frozen 5
  go_wp2
  refine bodyPost_ret (v := .agg #[.bool false, .slice none 0 0, .string ⟨#[]⟩, .string ⟨#[]⟩, .bool false, .int .i64 (-1)]) (by simp [results, Tryz.results52, go_sem, p0, p1, p2, p3, p4, p5]) rfl ?_
  suffices hF : RdT w _ b (.slice sa ws.length sc) ws (0) true from ⟨⟨_, _, _, _, _, _, _, _, rfl⟩, hF.rd, hF.gr⟩
  exact ((((((H9.out.D.set (g := w.heap.size) (Nat.le_refl _) 0 _).set (g := w.heap.size) (Nat.le_refl _) 1 _).set (g := w.heap.size) (Nat.le_refl _) 2 _).set (g := w.heap.size) (Nat.le_refl _) 3 _).set (g := w.heap.size) (Nat.le_refl _) 4 _).set (g := w.heap.size) (Nat.le_refl _) 5 _)
end Go.Proofs.YtimlnbfalnkmhaaGreatDoor
