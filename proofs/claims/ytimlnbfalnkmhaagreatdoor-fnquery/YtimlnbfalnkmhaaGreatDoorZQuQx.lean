/-
  Queries: what (*impl.reader).query answers: a contract over the seat's program: what is none.
-/
import Derived.Test.YtimlnbfalnkmhaaGreatDoorZQuD3
namespace Go.Proofs.YtimlnbfalnkmhaaGreatDoor
open Go.RowKit

set_option maxRecDepth 100000 in
set_option linter.unusedSimpArgs false in
set_option maxHeartbeats 8000000 in
theorem query_fx0 {b : Nat} {sv : Value} {ws : List ByteArray} {a : Addr} (w : World) (h : RdI w b sv ws 0 a) (hC : nw ws 0 ≠ qCount) (hN : ¬ nw ws 0 = qFind) :
    Calls Tryz.prog 46 #[.pointer (some ⟨b, 0, none⟩)] w fun e w' => EndQ w b sv ws a (rQ ws) e w' := by
  obtain ⟨sa, sc, rfl, _⟩ := h.hw
  have D0 := hid (((RdG.refl h).alloc (.cells #[.bool false, .slice none 0 0, .string ⟨#[]⟩, .string ⟨#[]⟩, .bool false, .int .i64 0] 25)).alloc (.cells #[.bool false, .slice none 0 0, .string ⟨#[]⟩, .string ⟨#[]⟩, .bool false, .int .i64 (-1)] 25))
  have P0 := hid ((NewB.made (w := w) (W := w) [.bool false, .slice none 0 0, .string ⟨#[]⟩, .string ⟨#[]⟩, .bool false, .int .i64 0] 25 (Nat.le_refl _)).alloc (.cells #[.bool false, .slice none 0 0, .string ⟨#[]⟩, .string ⟨#[]⟩, .bool false, .int .i64 (-1)] 25))
  have Q0 : Hid (NewB w ((w.alloc (.cells #[.bool false, .slice none 0 0, .string ⟨#[]⟩, .string ⟨#[]⟩, .bool false, .int .i64 0] 25)).alloc (.cells #[.bool false, .slice none 0 0, .string ⟨#[]⟩, .string ⟨#[]⟩, .bool false, .int .i64 (-1)] 25)) (w.heap.size + 1) [.bool false, .slice none 0 0, .string ⟨#[]⟩, .string ⟨#[]⟩, .bool false, .int .i64 (-1)] 25) := hid (by have := NewB.made (w := w) (W := w.alloc (.cells #[.bool false, .slice none 0 0, .string ⟨#[]⟩, .string ⟨#[]⟩, .bool false, .int .i64 0] 25)) [.bool false, .slice none 0 0, .string ⟨#[]⟩, .string ⟨#[]⟩, .bool false, .int .i64 (-1)] 25 (by simp); simpa using this)
  have hbl := lt_heap h.hb
  have hln := h.ln
  have n3 : w.heap.size ≤ w.heap.size + 1 := by omega
  have nq : w.heap.size + 1 ≠ w.heap.size := by omega
  have n4 : w.heap.size + 1 < w.heap.size + 2 := by omega
  clear h
  generalize hR' : rQ ws = R
  have hR := hid hR'
  clear hR'
  go_enter Tryz.func46, Tryz.ntmps46
  go_wp2_with fail
  have D := D0
  have P := P0
  have Q := Q0
  clear D0 P0 Q0
  generalize (w.alloc (.cells #[.bool false, .slice none 0 0, .string ⟨#[]⟩, .string ⟨#[]⟩, .bool false, .int .i64 0] 25)).alloc (.cells #[.bool false, .slice none 0 0, .string ⟨#[]⟩, .string ⟨#[]⟩, .bool false, .int .i64 (-1)] 25) = X at *
  have q0 : X.cell? ⟨w.heap.size + 1, 0, none⟩ = some (.bool false) := Q.out.cell 0
  have q1 : X.cell? ⟨w.heap.size + 1, 1, none⟩ = some (.slice none 0 0) := Q.out.cell 1
  have q2 : X.cell? ⟨w.heap.size + 1, 2, none⟩ = some (.string ⟨#[]⟩) := Q.out.cell 2
  have q3 : X.cell? ⟨w.heap.size + 1, 3, none⟩ = some (.string ⟨#[]⟩) := Q.out.cell 3
  have q4 : X.cell? ⟨w.heap.size + 1, 4, none⟩ = some (.bool false) := Q.out.cell 4
  have q5 : X.cell? ⟨w.heap.size + 1, 5, none⟩ = some (.int .i64 (-1)) := Q.out.cell 5
  have g0 := Q.out.frozen 0
  have g1 := Q.out.frozen 1
  have g2 := Q.out.frozen 2
  have g3 := Q.out.frozen 3
  have g4 := Q.out.frozen 4
  have g5 := Q.out.frozen 5
  have hd1 : ¬ qLimit = qDesc := by decide
  have hd2 : ¬ qLimit = qOrder := by decide
  have hfc : ¬ qFind = qCount := by decide
  go_wp2_with (first
    | (go_at_call 95; refine (meets_no qCount _ D.out.rd hC).mono ?_; rintro e w1 ⟨rfl, hr, hg⟩; have D1 := hid (D.out.call hr hg); have P1 := hid (P.out.call hg hbl); have Q1 := hid (Q.out.call hg hbl); clear D P Q hr hg q0 q1 q2 q3 q4 q5 g0 g1 g2 g3 g4 g5; have q0 : w1.cell? ⟨w.heap.size + 1, 0, none⟩ = some (.bool false) := Q1.out.cell 0; have g0 := Q1.out.frozen 0; have q1 : w1.cell? ⟨w.heap.size + 1, 1, none⟩ = some (.slice none 0 0) := Q1.out.cell 1; have g1 := Q1.out.frozen 1; have q2 : w1.cell? ⟨w.heap.size + 1, 2, none⟩ = some (.string ⟨#[]⟩) := Q1.out.cell 2; have g2 := Q1.out.frozen 2; have q3 : w1.cell? ⟨w.heap.size + 1, 3, none⟩ = some (.string ⟨#[]⟩) := Q1.out.cell 3; have g3 := Q1.out.frozen 3; have q4 : w1.cell? ⟨w.heap.size + 1, 4, none⟩ = some (.bool false) := Q1.out.cell 4; have g4 := Q1.out.frozen 4; have q5 : w1.cell? ⟨w.heap.size + 1, 5, none⟩ = some (.int .i64 (-1)) := Q1.out.cell 5; have g5 := Q1.out.frozen 5))
  have D := hid (D1.out.set (g := w.heap.size + 1) n3 0 (.bool false))
  have P := hid (P1.out.other (q := w.heap.size + 1) nq 0 (.bool false))
  have Q : Hid (NewB w _ (w.heap.size + 1) [.bool false, .slice none 0 0, .string ⟨#[]⟩, .string ⟨#[]⟩, .bool false, .int .i64 (-1)] 25) := hid (Q1.out.set 0 (.bool false))
  clear D1 P1 Q1 q0 q1 q2 q3 q4 q5 g0 g1 g2 g3 g4 g5
  generalize w1.setCell ⟨w.heap.size + 1, 0, none⟩ (.bool false) = X at *
  have q0 : X.cell? ⟨w.heap.size + 1, 0, none⟩ = some (.bool false) := Q.out.cell 0
  have q1 : X.cell? ⟨w.heap.size + 1, 1, none⟩ = some (.slice none 0 0) := Q.out.cell 1
  have q2 : X.cell? ⟨w.heap.size + 1, 2, none⟩ = some (.string ⟨#[]⟩) := Q.out.cell 2
  have q3 : X.cell? ⟨w.heap.size + 1, 3, none⟩ = some (.string ⟨#[]⟩) := Q.out.cell 3
  have q4 : X.cell? ⟨w.heap.size + 1, 4, none⟩ = some (.bool false) := Q.out.cell 4
  have q5 : X.cell? ⟨w.heap.size + 1, 5, none⟩ = some (.int .i64 (-1)) := Q.out.cell 5
  have g0 := Q.out.frozen 0
  have g1 := Q.out.frozen 1
  have g2 := Q.out.frozen 2
  have g3 := Q.out.frozen 3
  have g4 := Q.out.frozen 4
  have g5 := Q.out.frozen 5
  go_wp2_with (first
    | (go_at_call 95; refine (meets_no qFind _ D.out.rd hN).mono ?_; rintro e w2 ⟨rfl, hr, hg⟩; have D1 := hid (D.out.call hr hg); have P1 := hid (P.out.call hg hbl); have Q1 := hid (Q.out.call hg hbl); clear D P Q hr hg q0 q1 q2 q3 q4 q5 g0 g1 g2 g3 g4 g5)
    | (go_at_call 96; refine (must_no b _ D1.out.rd.er).mono ?_; rintro e w3 ⟨rfl, rfl⟩))
  obtain rfl : R = .error (0) := by rw [← hR.out]; simp [rQ, rCnt, rFnd, rBy, rOrd, rLim, rEnd, hC, hN]
  exact ⟨rfl, rfl, D1.out.rd, D1.out.gr⟩
set_option maxRecDepth 100000 in
set_option linter.unusedSimpArgs false in
set_option maxHeartbeats 8000000 in
theorem query_fx1 {b : Nat} {sv : Value} {ws : List ByteArray} {a : Addr} (w : World) (h : RdI w b sv ws 0 a) (hC : nw ws 0 ≠ qCount) (hN : nw ws 0 = qFind) {e1 : Nat} (hcs : rConds ws 1 = .error e1) :
    Calls Tryz.prog 46 #[.pointer (some ⟨b, 0, none⟩)] w fun e w' => EndQ w b sv ws a (rQ ws) e w' := by
  obtain ⟨sa, sc, rfl, _⟩ := h.hw
  have D0 := hid (((RdG.refl h).alloc (.cells #[.bool false, .slice none 0 0, .string ⟨#[]⟩, .string ⟨#[]⟩, .bool false, .int .i64 0] 25)).alloc (.cells #[.bool false, .slice none 0 0, .string ⟨#[]⟩, .string ⟨#[]⟩, .bool false, .int .i64 (-1)] 25))
  have P0 := hid ((NewB.made (w := w) (W := w) [.bool false, .slice none 0 0, .string ⟨#[]⟩, .string ⟨#[]⟩, .bool false, .int .i64 0] 25 (Nat.le_refl _)).alloc (.cells #[.bool false, .slice none 0 0, .string ⟨#[]⟩, .string ⟨#[]⟩, .bool false, .int .i64 (-1)] 25))
  have Q0 : Hid (NewB w ((w.alloc (.cells #[.bool false, .slice none 0 0, .string ⟨#[]⟩, .string ⟨#[]⟩, .bool false, .int .i64 0] 25)).alloc (.cells #[.bool false, .slice none 0 0, .string ⟨#[]⟩, .string ⟨#[]⟩, .bool false, .int .i64 (-1)] 25)) (w.heap.size + 1) [.bool false, .slice none 0 0, .string ⟨#[]⟩, .string ⟨#[]⟩, .bool false, .int .i64 (-1)] 25) := hid (by have := NewB.made (w := w) (W := w.alloc (.cells #[.bool false, .slice none 0 0, .string ⟨#[]⟩, .string ⟨#[]⟩, .bool false, .int .i64 0] 25)) [.bool false, .slice none 0 0, .string ⟨#[]⟩, .string ⟨#[]⟩, .bool false, .int .i64 (-1)] 25 (by simp); simpa using this)
  have hbl := lt_heap h.hb
  have hln := h.ln
  have n3 : w.heap.size ≤ w.heap.size + 1 := by omega
  have nq : w.heap.size + 1 ≠ w.heap.size := by omega
  have n4 : w.heap.size + 1 < w.heap.size + 2 := by omega
  clear h
  generalize hR' : rQ ws = R
  have hR := hid hR'
  clear hR'
  go_enter Tryz.func46, Tryz.ntmps46
  go_wp2_with fail
  have D := D0
  have P := P0
  have Q := Q0
  clear D0 P0 Q0
  generalize (w.alloc (.cells #[.bool false, .slice none 0 0, .string ⟨#[]⟩, .string ⟨#[]⟩, .bool false, .int .i64 0] 25)).alloc (.cells #[.bool false, .slice none 0 0, .string ⟨#[]⟩, .string ⟨#[]⟩, .bool false, .int .i64 (-1)] 25) = X at *
  have q0 : X.cell? ⟨w.heap.size + 1, 0, none⟩ = some (.bool false) := Q.out.cell 0
  have q1 : X.cell? ⟨w.heap.size + 1, 1, none⟩ = some (.slice none 0 0) := Q.out.cell 1
  have q2 : X.cell? ⟨w.heap.size + 1, 2, none⟩ = some (.string ⟨#[]⟩) := Q.out.cell 2
  have q3 : X.cell? ⟨w.heap.size + 1, 3, none⟩ = some (.string ⟨#[]⟩) := Q.out.cell 3
  have q4 : X.cell? ⟨w.heap.size + 1, 4, none⟩ = some (.bool false) := Q.out.cell 4
  have q5 : X.cell? ⟨w.heap.size + 1, 5, none⟩ = some (.int .i64 (-1)) := Q.out.cell 5
  have g0 := Q.out.frozen 0
  have g1 := Q.out.frozen 1
  have g2 := Q.out.frozen 2
  have g3 := Q.out.frozen 3
  have g4 := Q.out.frozen 4
  have g5 := Q.out.frozen 5
  have hd1 : ¬ qLimit = qDesc := by decide
  have hd2 : ¬ qLimit = qOrder := by decide
  have hfc : ¬ qFind = qCount := by decide
  go_wp2_with (first
    | (go_at_call 95; refine (meets_no qCount _ D.out.rd hC).mono ?_; rintro e w1 ⟨rfl, hr, hg⟩; have D1 := hid (D.out.call hr hg); have P1 := hid (P.out.call hg hbl); have Q1 := hid (Q.out.call hg hbl); clear D P Q hr hg q0 q1 q2 q3 q4 q5 g0 g1 g2 g3 g4 g5; have q0 : w1.cell? ⟨w.heap.size + 1, 0, none⟩ = some (.bool false) := Q1.out.cell 0; have g0 := Q1.out.frozen 0; have q1 : w1.cell? ⟨w.heap.size + 1, 1, none⟩ = some (.slice none 0 0) := Q1.out.cell 1; have g1 := Q1.out.frozen 1; have q2 : w1.cell? ⟨w.heap.size + 1, 2, none⟩ = some (.string ⟨#[]⟩) := Q1.out.cell 2; have g2 := Q1.out.frozen 2; have q3 : w1.cell? ⟨w.heap.size + 1, 3, none⟩ = some (.string ⟨#[]⟩) := Q1.out.cell 3; have g3 := Q1.out.frozen 3; have q4 : w1.cell? ⟨w.heap.size + 1, 4, none⟩ = some (.bool false) := Q1.out.cell 4; have g4 := Q1.out.frozen 4; have q5 : w1.cell? ⟨w.heap.size + 1, 5, none⟩ = some (.int .i64 (-1)) := Q1.out.cell 5; have g5 := Q1.out.frozen 5))
  have D := hid (D1.out.set (g := w.heap.size + 1) n3 0 (.bool false))
  have P := hid (P1.out.other (q := w.heap.size + 1) nq 0 (.bool false))
  have Q : Hid (NewB w _ (w.heap.size + 1) [.bool false, .slice none 0 0, .string ⟨#[]⟩, .string ⟨#[]⟩, .bool false, .int .i64 (-1)] 25) := hid (Q1.out.set 0 (.bool false))
  clear D1 P1 Q1 q0 q1 q2 q3 q4 q5 g0 g1 g2 g3 g4 g5
  generalize w1.setCell ⟨w.heap.size + 1, 0, none⟩ (.bool false) = X at *
  have q0 : X.cell? ⟨w.heap.size + 1, 0, none⟩ = some (.bool false) := Q.out.cell 0
  have q1 : X.cell? ⟨w.heap.size + 1, 1, none⟩ = some (.slice none 0 0) := Q.out.cell 1
  have q2 : X.cell? ⟨w.heap.size + 1, 2, none⟩ = some (.string ⟨#[]⟩) := Q.out.cell 2
  have q3 : X.cell? ⟨w.heap.size + 1, 3, none⟩ = some (.string ⟨#[]⟩) := Q.out.cell 3
  have q4 : X.cell? ⟨w.heap.size + 1, 4, none⟩ = some (.bool false) := Q.out.cell 4
  have q5 : X.cell? ⟨w.heap.size + 1, 5, none⟩ = some (.int .i64 (-1)) := Q.out.cell 5
  have g0 := Q.out.frozen 0
  have g1 := Q.out.frozen 1
  have g2 := Q.out.frozen 2
  have g3 := Q.out.frozen 3
  have g4 := Q.out.frozen 4
  have g5 := Q.out.frozen 5
  have hk0 : 0 < ws.length := nw_lt hN (by decide)
  go_wp2_with (first
    | (go_at_call 95; refine (meets_yes qFind _ D.out.rd hk0 hN).mono ?_; rintro e w2 ⟨rfl, hr, hg⟩; have D1 := hid (D.out.call hr hg); have P1 := hid (P.out.call hg hbl); have Q1 := hid (Q.out.call hg hbl); clear D P Q hr hg q0 q1 q2 q3 q4 q5 g0 g1 g2 g3 g4 g5; have q0 : w2.cell? ⟨w.heap.size + 1, 0, none⟩ = some (.bool false) := Q1.out.cell 0; have g0 := Q1.out.frozen 0; have q1 : w2.cell? ⟨w.heap.size + 1, 1, none⟩ = some (.slice none 0 0) := Q1.out.cell 1; have g1 := Q1.out.frozen 1; have q2 : w2.cell? ⟨w.heap.size + 1, 2, none⟩ = some (.string ⟨#[]⟩) := Q1.out.cell 2; have g2 := Q1.out.frozen 2; have q3 : w2.cell? ⟨w.heap.size + 1, 3, none⟩ = some (.string ⟨#[]⟩) := Q1.out.cell 3; have g3 := Q1.out.frozen 3; have q4 : w2.cell? ⟨w.heap.size + 1, 4, none⟩ = some (.bool false) := Q1.out.cell 4; have g4 := Q1.out.frozen 4; have q5 : w2.cell? ⟨w.heap.size + 1, 5, none⟩ = some (.int .i64 (-1)) := Q1.out.cell 5; have g5 := Q1.out.frozen 5)
    | (go_at_call 96; refine (must_yes b _).mono ?_; rintro e w3 ⟨rfl, rfl⟩))
  have D := D1
  have P := P1
  have Q := Q1
  clear D1 P1 Q1
  generalize w3 = X at *
  have q0 : X.cell? ⟨w.heap.size + 1, 0, none⟩ = some (.bool false) := Q.out.cell 0
  have q1 : X.cell? ⟨w.heap.size + 1, 1, none⟩ = some (.slice none 0 0) := Q.out.cell 1
  have q2 : X.cell? ⟨w.heap.size + 1, 2, none⟩ = some (.string ⟨#[]⟩) := Q.out.cell 2
  have q3 : X.cell? ⟨w.heap.size + 1, 3, none⟩ = some (.string ⟨#[]⟩) := Q.out.cell 3
  have q4 : X.cell? ⟨w.heap.size + 1, 4, none⟩ = some (.bool false) := Q.out.cell 4
  have q5 : X.cell? ⟨w.heap.size + 1, 5, none⟩ = some (.int .i64 (-1)) := Q.out.cell 5
  have g0 := Q.out.frozen 0
  have g1 := Q.out.frozen 1
  have g2 := Q.out.frozen 2
  have g3 := Q.out.frozen 3
  have g4 := Q.out.frozen 4
  have g5 := Q.out.frozen 5
  obtain rfl : R = .error (e1) := by rw [← hR.out]; simp [rQ, rCnt, rFnd, rBy, rOrd, rLim, rEnd, hN, hfc, hcs]
  go_wp2_with (first
    | (go_at_call 97; refine (conds_any _ D.out.rd).mono ?_; rintro e w4 hE; obtain ⟨rfl, hr, hg⟩ := hE.err hcs; have D1 := hid (D.out.call hr hg); have P1 := hid (P.out.call hg hbl); have Q1 := hid (Q.out.call hg hbl); clear D P Q hr hg q0 q1 q2 q3 q4 q5 g0 g1 g2 g3 g4 g5))
  exact ⟨rfl, rfl, D1.out.rd, D1.out.gr⟩
set_option maxRecDepth 100000 in
set_option linter.unusedSimpArgs false in
set_option maxHeartbeats 8000000 in
theorem query_fx2 {b : Nat} {sv : Value} {ws : List ByteArray} {a : Addr} (w : World) (h : RdI w b sv ws 0 a) (hC : nw ws 0 ≠ qCount) (hN : nw ws 0 = qFind) {cs : List Cd} {k : Nat} (hcs : rConds ws 1 = .ok (cs, k)) (hO : nw ws k = qOrder) (hOF : numF (nw ws (k + 1)) = false) :
    Calls Tryz.prog 46 #[.pointer (some ⟨b, 0, none⟩)] w fun e w' => EndQ w b sv ws a (rQ ws) e w' := by
  obtain ⟨sa, sc, rfl, _⟩ := h.hw
  have D0 := hid (((RdG.refl h).alloc (.cells #[.bool false, .slice none 0 0, .string ⟨#[]⟩, .string ⟨#[]⟩, .bool false, .int .i64 0] 25)).alloc (.cells #[.bool false, .slice none 0 0, .string ⟨#[]⟩, .string ⟨#[]⟩, .bool false, .int .i64 (-1)] 25))
  have P0 := hid ((NewB.made (w := w) (W := w) [.bool false, .slice none 0 0, .string ⟨#[]⟩, .string ⟨#[]⟩, .bool false, .int .i64 0] 25 (Nat.le_refl _)).alloc (.cells #[.bool false, .slice none 0 0, .string ⟨#[]⟩, .string ⟨#[]⟩, .bool false, .int .i64 (-1)] 25))
  have Q0 : Hid (NewB w ((w.alloc (.cells #[.bool false, .slice none 0 0, .string ⟨#[]⟩, .string ⟨#[]⟩, .bool false, .int .i64 0] 25)).alloc (.cells #[.bool false, .slice none 0 0, .string ⟨#[]⟩, .string ⟨#[]⟩, .bool false, .int .i64 (-1)] 25)) (w.heap.size + 1) [.bool false, .slice none 0 0, .string ⟨#[]⟩, .string ⟨#[]⟩, .bool false, .int .i64 (-1)] 25) := hid (by have := NewB.made (w := w) (W := w.alloc (.cells #[.bool false, .slice none 0 0, .string ⟨#[]⟩, .string ⟨#[]⟩, .bool false, .int .i64 0] 25)) [.bool false, .slice none 0 0, .string ⟨#[]⟩, .string ⟨#[]⟩, .bool false, .int .i64 (-1)] 25 (by simp); simpa using this)
  have hbl := lt_heap h.hb
  have hln := h.ln
  have n3 : w.heap.size ≤ w.heap.size + 1 := by omega
  have nq : w.heap.size + 1 ≠ w.heap.size := by omega
  have n4 : w.heap.size + 1 < w.heap.size + 2 := by omega
  clear h
  generalize hR' : rQ ws = R
  have hR := hid hR'
  clear hR'
  go_enter Tryz.func46, Tryz.ntmps46
  go_wp2_with fail
  have D := D0
  have P := P0
  have Q := Q0
  clear D0 P0 Q0
  generalize (w.alloc (.cells #[.bool false, .slice none 0 0, .string ⟨#[]⟩, .string ⟨#[]⟩, .bool false, .int .i64 0] 25)).alloc (.cells #[.bool false, .slice none 0 0, .string ⟨#[]⟩, .string ⟨#[]⟩, .bool false, .int .i64 (-1)] 25) = X at *
  have q0 : X.cell? ⟨w.heap.size + 1, 0, none⟩ = some (.bool false) := Q.out.cell 0
  have q1 : X.cell? ⟨w.heap.size + 1, 1, none⟩ = some (.slice none 0 0) := Q.out.cell 1
  have q2 : X.cell? ⟨w.heap.size + 1, 2, none⟩ = some (.string ⟨#[]⟩) := Q.out.cell 2
  have q3 : X.cell? ⟨w.heap.size + 1, 3, none⟩ = some (.string ⟨#[]⟩) := Q.out.cell 3
  have q4 : X.cell? ⟨w.heap.size + 1, 4, none⟩ = some (.bool false) := Q.out.cell 4
  have q5 : X.cell? ⟨w.heap.size + 1, 5, none⟩ = some (.int .i64 (-1)) := Q.out.cell 5
  have g0 := Q.out.frozen 0
  have g1 := Q.out.frozen 1
  have g2 := Q.out.frozen 2
  have g3 := Q.out.frozen 3
  have g4 := Q.out.frozen 4
  have g5 := Q.out.frozen 5
  have hd1 : ¬ qLimit = qDesc := by decide
  have hd2 : ¬ qLimit = qOrder := by decide
  have hfc : ¬ qFind = qCount := by decide
  go_wp2_with (first
    | (go_at_call 95; refine (meets_no qCount _ D.out.rd hC).mono ?_; rintro e w1 ⟨rfl, hr, hg⟩; have D1 := hid (D.out.call hr hg); have P1 := hid (P.out.call hg hbl); have Q1 := hid (Q.out.call hg hbl); clear D P Q hr hg q0 q1 q2 q3 q4 q5 g0 g1 g2 g3 g4 g5; have q0 : w1.cell? ⟨w.heap.size + 1, 0, none⟩ = some (.bool false) := Q1.out.cell 0; have g0 := Q1.out.frozen 0; have q1 : w1.cell? ⟨w.heap.size + 1, 1, none⟩ = some (.slice none 0 0) := Q1.out.cell 1; have g1 := Q1.out.frozen 1; have q2 : w1.cell? ⟨w.heap.size + 1, 2, none⟩ = some (.string ⟨#[]⟩) := Q1.out.cell 2; have g2 := Q1.out.frozen 2; have q3 : w1.cell? ⟨w.heap.size + 1, 3, none⟩ = some (.string ⟨#[]⟩) := Q1.out.cell 3; have g3 := Q1.out.frozen 3; have q4 : w1.cell? ⟨w.heap.size + 1, 4, none⟩ = some (.bool false) := Q1.out.cell 4; have g4 := Q1.out.frozen 4; have q5 : w1.cell? ⟨w.heap.size + 1, 5, none⟩ = some (.int .i64 (-1)) := Q1.out.cell 5; have g5 := Q1.out.frozen 5))
  have D := hid (D1.out.set (g := w.heap.size + 1) n3 0 (.bool false))
  have P := hid (P1.out.other (q := w.heap.size + 1) nq 0 (.bool false))
  have Q : Hid (NewB w _ (w.heap.size + 1) [.bool false, .slice none 0 0, .string ⟨#[]⟩, .string ⟨#[]⟩, .bool false, .int .i64 (-1)] 25) := hid (Q1.out.set 0 (.bool false))
  clear D1 P1 Q1 q0 q1 q2 q3 q4 q5 g0 g1 g2 g3 g4 g5
  generalize w1.setCell ⟨w.heap.size + 1, 0, none⟩ (.bool false) = X at *
  have q0 : X.cell? ⟨w.heap.size + 1, 0, none⟩ = some (.bool false) := Q.out.cell 0
  have q1 : X.cell? ⟨w.heap.size + 1, 1, none⟩ = some (.slice none 0 0) := Q.out.cell 1
  have q2 : X.cell? ⟨w.heap.size + 1, 2, none⟩ = some (.string ⟨#[]⟩) := Q.out.cell 2
  have q3 : X.cell? ⟨w.heap.size + 1, 3, none⟩ = some (.string ⟨#[]⟩) := Q.out.cell 3
  have q4 : X.cell? ⟨w.heap.size + 1, 4, none⟩ = some (.bool false) := Q.out.cell 4
  have q5 : X.cell? ⟨w.heap.size + 1, 5, none⟩ = some (.int .i64 (-1)) := Q.out.cell 5
  have g0 := Q.out.frozen 0
  have g1 := Q.out.frozen 1
  have g2 := Q.out.frozen 2
  have g3 := Q.out.frozen 3
  have g4 := Q.out.frozen 4
  have g5 := Q.out.frozen 5
  have hk0 : 0 < ws.length := nw_lt hN (by decide)
  go_wp2_with (first
    | (go_at_call 95; refine (meets_yes qFind _ D.out.rd hk0 hN).mono ?_; rintro e w2 ⟨rfl, hr, hg⟩; have D1 := hid (D.out.call hr hg); have P1 := hid (P.out.call hg hbl); have Q1 := hid (Q.out.call hg hbl); clear D P Q hr hg q0 q1 q2 q3 q4 q5 g0 g1 g2 g3 g4 g5; have q0 : w2.cell? ⟨w.heap.size + 1, 0, none⟩ = some (.bool false) := Q1.out.cell 0; have g0 := Q1.out.frozen 0; have q1 : w2.cell? ⟨w.heap.size + 1, 1, none⟩ = some (.slice none 0 0) := Q1.out.cell 1; have g1 := Q1.out.frozen 1; have q2 : w2.cell? ⟨w.heap.size + 1, 2, none⟩ = some (.string ⟨#[]⟩) := Q1.out.cell 2; have g2 := Q1.out.frozen 2; have q3 : w2.cell? ⟨w.heap.size + 1, 3, none⟩ = some (.string ⟨#[]⟩) := Q1.out.cell 3; have g3 := Q1.out.frozen 3; have q4 : w2.cell? ⟨w.heap.size + 1, 4, none⟩ = some (.bool false) := Q1.out.cell 4; have g4 := Q1.out.frozen 4; have q5 : w2.cell? ⟨w.heap.size + 1, 5, none⟩ = some (.int .i64 (-1)) := Q1.out.cell 5; have g5 := Q1.out.frozen 5)
    | (go_at_call 96; refine (must_yes b _).mono ?_; rintro e w3 ⟨rfl, rfl⟩))
  have D := D1
  have P := P1
  have Q := Q1
  clear D1 P1 Q1
  generalize w3 = X at *
  have q0 : X.cell? ⟨w.heap.size + 1, 0, none⟩ = some (.bool false) := Q.out.cell 0
  have q1 : X.cell? ⟨w.heap.size + 1, 1, none⟩ = some (.slice none 0 0) := Q.out.cell 1
  have q2 : X.cell? ⟨w.heap.size + 1, 2, none⟩ = some (.string ⟨#[]⟩) := Q.out.cell 2
  have q3 : X.cell? ⟨w.heap.size + 1, 3, none⟩ = some (.string ⟨#[]⟩) := Q.out.cell 3
  have q4 : X.cell? ⟨w.heap.size + 1, 4, none⟩ = some (.bool false) := Q.out.cell 4
  have q5 : X.cell? ⟨w.heap.size + 1, 5, none⟩ = some (.int .i64 (-1)) := Q.out.cell 5
  have g0 := Q.out.frozen 0
  have g1 := Q.out.frozen 1
  have g2 := Q.out.frozen 2
  have g3 := Q.out.frozen 3
  have g4 := Q.out.frozen 4
  have g5 := Q.out.frozen 5
  have hsz : w.heap.size + 2 ≤ X.heap.size := by have := lt_heap Q.out.blk; omega
  go_wp2_with (first
    | (go_at_call 97; refine (conds_any _ D.out.rd).mono ?_; rintro e w4 hE; obtain ⟨⟨v, rfl, hown⟩, hr, hg⟩ := hE.ok hcs; obtain ⟨va, vc, rfl⟩ := own_forms hown; have O1 := hid (ownB_le hown hsz); clear hE hown; have D1 := hid (D.out.call hr hg); have P1 := hid (P.out.call hg hbl); have Q1 := hid (Q.out.call hg hbl); clear D P Q hr hg q0 q1 q2 q3 q4 q5 g0 g1 g2 g3 g4 g5; have q0 : w4.cell? ⟨w.heap.size + 1, 0, none⟩ = some (.bool false) := Q1.out.cell 0; have g0 := Q1.out.frozen 0; have q1 : w4.cell? ⟨w.heap.size + 1, 1, none⟩ = some (.slice none 0 0) := Q1.out.cell 1; have g1 := Q1.out.frozen 1; have q2 : w4.cell? ⟨w.heap.size + 1, 2, none⟩ = some (.string ⟨#[]⟩) := Q1.out.cell 2; have g2 := Q1.out.frozen 2; have q3 : w4.cell? ⟨w.heap.size + 1, 3, none⟩ = some (.string ⟨#[]⟩) := Q1.out.cell 3; have g3 := Q1.out.frozen 3; have q4 : w4.cell? ⟨w.heap.size + 1, 4, none⟩ = some (.bool false) := Q1.out.cell 4; have g4 := Q1.out.frozen 4; have q5 : w4.cell? ⟨w.heap.size + 1, 5, none⟩ = some (.int .i64 (-1)) := Q1.out.cell 5; have g5 := Q1.out.frozen 5))
  have D := hid (D1.out.set (g := w.heap.size + 1) n3 1 (.slice va cs.length vc))
  have P := hid (P1.out.other (q := w.heap.size + 1) nq 1 (.slice va cs.length vc))
  have Q : Hid (NewB w _ (w.heap.size + 1) [.bool false, .slice va cs.length vc, .string ⟨#[]⟩, .string ⟨#[]⟩, .bool false, .int .i64 (-1)] 25) := hid (Q1.out.set 1 (.slice va cs.length vc))
  have O := hid (own_kept O1.out n4 (grown_set w4 (w.heap.size + 1) 1 (.slice va cs.length vc)))
  clear D1 P1 Q1 O1 q0 q1 q2 q3 q4 q5 g0 g1 g2 g3 g4 g5
  generalize w4.setCell ⟨w.heap.size + 1, 1, none⟩ (.slice va cs.length vc) = X at *
  have q0 : X.cell? ⟨w.heap.size + 1, 0, none⟩ = some (.bool false) := Q.out.cell 0
  have q1 : X.cell? ⟨w.heap.size + 1, 1, none⟩ = some (.slice va cs.length vc) := Q.out.cell 1
  have q2 : X.cell? ⟨w.heap.size + 1, 2, none⟩ = some (.string ⟨#[]⟩) := Q.out.cell 2
  have q3 : X.cell? ⟨w.heap.size + 1, 3, none⟩ = some (.string ⟨#[]⟩) := Q.out.cell 3
  have q4 : X.cell? ⟨w.heap.size + 1, 4, none⟩ = some (.bool false) := Q.out.cell 4
  have q5 : X.cell? ⟨w.heap.size + 1, 5, none⟩ = some (.int .i64 (-1)) := Q.out.cell 5
  have g0 := Q.out.frozen 0
  have g1 := Q.out.frozen 1
  have g2 := Q.out.frozen 2
  have g3 := Q.out.frozen 3
  have g4 := Q.out.frozen 4
  have g5 := Q.out.frozen 5
  have hk : k < ws.length := nw_lt hO (by decide)
  go_wp2_with (first
    | (go_at_call 95; refine (meets_yes qOrder _ D.out.rd hk hO).mono ?_; rintro e w6 ⟨rfl, hr, hg⟩; have D1 := hid (D.out.call hr hg); have P1 := hid (P.out.call hg hbl); have Q1 := hid (Q.out.call hg hbl); have O1 := hid (own_kept O.out (by omega) hg); clear O; clear D P Q hr hg q0 q1 q2 q3 q4 q5 g0 g1 g2 g3 g4 g5; have q0 : w6.cell? ⟨w.heap.size + 1, 0, none⟩ = some (.bool false) := Q1.out.cell 0; have g0 := Q1.out.frozen 0; have q1 : w6.cell? ⟨w.heap.size + 1, 1, none⟩ = some (.slice va cs.length vc) := Q1.out.cell 1; have g1 := Q1.out.frozen 1; have q2 : w6.cell? ⟨w.heap.size + 1, 2, none⟩ = some (.string ⟨#[]⟩) := Q1.out.cell 2; have g2 := Q1.out.frozen 2; have q3 : w6.cell? ⟨w.heap.size + 1, 3, none⟩ = some (.string ⟨#[]⟩) := Q1.out.cell 3; have g3 := Q1.out.frozen 3; have q4 : w6.cell? ⟨w.heap.size + 1, 4, none⟩ = some (.bool false) := Q1.out.cell 4; have g4 := Q1.out.frozen 4; have q5 : w6.cell? ⟨w.heap.size + 1, 5, none⟩ = some (.int .i64 (-1)) := Q1.out.cell 5; have g5 := Q1.out.frozen 5))
  have D := D1
  have P := P1
  have Q := Q1
  have O := O1
  clear D1 P1 Q1 O1
  generalize w6 = X at *
  replace D : Hid (RdG w X b (.slice sa ws.length sc) ws (k + 1) a) := D
  have q0 : X.cell? ⟨w.heap.size + 1, 0, none⟩ = some (.bool false) := Q.out.cell 0
  have q1 : X.cell? ⟨w.heap.size + 1, 1, none⟩ = some (.slice va cs.length vc) := Q.out.cell 1
  have q2 : X.cell? ⟨w.heap.size + 1, 2, none⟩ = some (.string ⟨#[]⟩) := Q.out.cell 2
  have q3 : X.cell? ⟨w.heap.size + 1, 3, none⟩ = some (.string ⟨#[]⟩) := Q.out.cell 3
  have q4 : X.cell? ⟨w.heap.size + 1, 4, none⟩ = some (.bool false) := Q.out.cell 4
  have q5 : X.cell? ⟨w.heap.size + 1, 5, none⟩ = some (.int .i64 (-1)) := Q.out.cell 5
  have g0 := Q.out.frozen 0
  have g1 := Q.out.frozen 1
  have g2 := Q.out.frozen 2
  have g3 := Q.out.frozen 3
  have g4 := Q.out.frozen 4
  have g5 := Q.out.frozen 5
  go_wp2_with (first
    | (go_at_call 98; refine (takeNF_no _ D.out.rd (fun W _ => (isNumberField_any _ W).mono (fun _ _ h => ⟨by rw [h.1, hOF], by rw [h.2]; exact Below.refl _ _⟩))).mono ?_; rintro e w7 ⟨rfl, hr, hg⟩; have D1 := hid (D.out.call hr hg); have P1 := hid (P.out.call hg hbl); have Q1 := hid (Q.out.call hg hbl); have O1 := hid (own_kept O.out (by omega) hg); clear O; clear D P Q hr hg q0 q1 q2 q3 q4 q5 g0 g1 g2 g3 g4 g5))
  obtain rfl : R = .error (k + 1) := by rw [← hR.out]; simp [rQ, rCnt, rFnd, rBy, rOrd, rLim, rEnd, hN, hfc, hcs, hO, hOF]
  exact ⟨rfl, rfl, D1.out.rd, D1.out.gr⟩
end Go.Proofs.YtimlnbfalnkmhaaGreatDoor
