/-
  Queries: what (*impl.reader).query answers: a contract over the seat's program: a find without order.
-/
import Derived.Test.YtimlnbfalnkmhaaGreatDoorZQuD3
namespace Go.Proofs.YtimlnbfalnkmhaaGreatDoor
open Go.RowKit

set_option maxRecDepth 100000 in
set_option linter.unusedSimpArgs false in
set_option maxHeartbeats 8000000 in
theorem query_fa {b : Nat} {sv : Value} {ws : List ByteArray} {a : Addr} (w : World) (h : RdI w b sv ws 0 a) (hC : nw ws 0 ≠ qCount) (hN : nw ws 0 = qFind) {cs : List Cd} {k : Nat} (hcs : rConds ws 1 = .ok (cs, k)) (hO : ¬ nw ws k = qOrder) :
    Calls Tryz.prog 46 #[.pointer (some ⟨b, 0, none⟩)] w fun e w' => EndQ w b sv ws a (rQ ws) e w' := by
  obtain ⟨sa, sc, rfl, _⟩ := h.hw
  have D0 := hid (((RdG.refl h).alloc (.cells #[.bool false, .slice none 0 0, .string ⟨#[]⟩, .string ⟨#[]⟩, .bool false, .int .i64 0] 25)).alloc (.cells #[.bool false, .slice none 0 0, .string ⟨#[]⟩, .string ⟨#[]⟩, .bool false, .int .i64 (-1)] 25))
  have P0 := hid ((NewB.made (w := w) (W := w) [.bool false, .slice none 0 0, .string ⟨#[]⟩, .string ⟨#[]⟩, .bool false, .int .i64 0] 25 (Nat.le_refl _)).alloc (.cells #[.bool false, .slice none 0 0, .string ⟨#[]⟩, .string ⟨#[]⟩, .bool false, .int .i64 (-1)] 25))
  have Q0 : Hid (NewB w ((w.alloc (.cells #[.bool false, .slice none 0 0, .string ⟨#[]⟩, .string ⟨#[]⟩, .bool false, .int .i64 0] 25)).alloc (.cells #[.bool false, .slice none 0 0, .string ⟨#[]⟩, .string ⟨#[]⟩, .bool false, .int .i64 (-1)] 25)) (w.heap.size + 1) [.bool false, .slice none 0 0, .string ⟨#[]⟩, .string ⟨#[]⟩, .bool false, .int .i64 (-1)] 25) := hid (by have := NewB.made (w := w) (W := w.alloc (.cells #[.bool false, .slice none 0 0, .string ⟨#[]⟩, .string ⟨#[]⟩, .bool false, .int .i64 0] 25)) [.bool false, .slice none 0 0, .string ⟨#[]⟩, .string ⟨#[]⟩, .bool false, .int .i64 (-1)] 25 (by simp); simpa using this)
  have hbl := lt_heap h.hb
  have hln := h.ln
  have n3 : w.heap.size ≤ w.heap.size + 1 := by omega
  have nq : w.heap.size + 1 ≠ w.heap.size := by omega
  have n4 : w.heap.size + 1 < w.heap.size + 2 := by omega
  clear h
  generalize hR' : rQ ws = R
  have hR := hid hR'
  clear hR'
  go_enter Tryz.func46, Tryz.ntmps46
  go_wp2_with fail
  have D := D0
  have P := P0
  have Q := Q0
  clear D0 P0 Q0
  generalize (w.alloc (.cells #[.bool false, .slice none 0 0, .string ⟨#[]⟩, .string ⟨#[]⟩, .bool false, .int .i64 0] 25)).alloc (.cells #[.bool false, .slice none 0 0, .string ⟨#[]⟩, .string ⟨#[]⟩, .bool false, .int .i64 (-1)] 25) = X at *
  have q0 : X.cell? ⟨w.heap.size + 1, 0, none⟩ = some (.bool false) := Q.out.cell 0
  have q1 : X.cell? ⟨w.heap.size + 1, 1, none⟩ = some (.slice none 0 0) := Q.out.cell 1
  have q2 : X.cell? ⟨w.heap.size + 1, 2, none⟩ = some (.string ⟨#[]⟩) := Q.out.cell 2
  have q3 : X.cell? ⟨w.heap.size + 1, 3, none⟩ = some (.string ⟨#[]⟩) := Q.out.cell 3
  have q4 : X.cell? ⟨w.heap.size + 1, 4, none⟩ = some (.bool false) := Q.out.cell 4
  have q5 : X.cell? ⟨w.heap.size + 1, 5, none⟩ = some (.int .i64 (-1)) := Q.out.cell 5
  have g0 := Q.out.frozen 0
  have g1 := Q.out.frozen 1
  have g2 := Q.out.frozen 2
  have g3 := Q.out.frozen 3
  have g4 := Q.out.frozen 4
  have g5 := Q.out.frozen 5
  have hd1 : ¬ qLimit = qDesc := by decide
  have hd2 : ¬ qLimit = qOrder := by decide
  have hfc : ¬ qFind = qCount := by decide
  go_wp2_with (first
    | (go_at_call 95; refine (meets_no qCount _ D.out.rd hC).mono ?_; rintro e w1 ⟨rfl, hr, hg⟩; have D1 := hid (D.out.call hr hg); have P1 := hid (P.out.call hg hbl); have Q1 := hid (Q.out.call hg hbl); clear D P Q hr hg q0 q1 q2 q3 q4 q5 g0 g1 g2 g3 g4 g5; have q0 : w1.cell? ⟨w.heap.size + 1, 0, none⟩ = some (.bool false) := Q1.out.cell 0; have g0 := Q1.out.frozen 0; have q1 : w1.cell? ⟨w.heap.size + 1, 1, none⟩ = some (.slice none 0 0) := Q1.out.cell 1; have g1 := Q1.out.frozen 1; have q2 : w1.cell? ⟨w.heap.size + 1, 2, none⟩ = some (.string ⟨#[]⟩) := Q1.out.cell 2; have g2 := Q1.out.frozen 2; have q3 : w1.cell? ⟨w.heap.size + 1, 3, none⟩ = some (.string ⟨#[]⟩) := Q1.out.cell 3; have g3 := Q1.out.frozen 3; have q4 : w1.cell? ⟨w.heap.size + 1, 4, none⟩ = some (.bool false) := Q1.out.cell 4; have g4 := Q1.out.frozen 4; have q5 : w1.cell? ⟨w.heap.size + 1, 5, none⟩ = some (.int .i64 (-1)) := Q1.out.cell 5; have g5 := Q1.out.frozen 5))
  have D := hid (D1.out.set (g := w.heap.size + 1) n3 0 (.bool false))
  have P := hid (P1.out.other (q := w.heap.size + 1) nq 0 (.bool false))
  have Q : Hid (NewB w _ (w.heap.size + 1) [.bool false, .slice none 0 0, .string ⟨#[]⟩, .string ⟨#[]⟩, .bool false, .int .i64 (-1)] 25) := hid (Q1.out.set 0 (.bool false))
  clear D1 P1 Q1 q0 q1 q2 q3 q4 q5 g0 g1 g2 g3 g4 g5
  generalize w1.setCell ⟨w.heap.size + 1, 0, none⟩ (.bool false) = X at *
  have q0 : X.cell? ⟨w.heap.size + 1, 0, none⟩ = some (.bool false) := Q.out.cell 0
  have q1 : X.cell? ⟨w.heap.size + 1, 1, none⟩ = some (.slice none 0 0) := Q.out.cell 1
  have q2 : X.cell? ⟨w.heap.size + 1, 2, none⟩ = some (.string ⟨#[]⟩) := Q.out.cell 2
  have q3 : X.cell? ⟨w.heap.size + 1, 3, none⟩ = some (.string ⟨#[]⟩) := Q.out.cell 3
  have q4 : X.cell? ⟨w.heap.size + 1, 4, none⟩ = some (.bool false) := Q.out.cell 4
  have q5 : X.cell? ⟨w.heap.size + 1, 5, none⟩ = some (.int .i64 (-1)) := Q.out.cell 5
  have g0 := Q.out.frozen 0
  have g1 := Q.out.frozen 1
  have g2 := Q.out.frozen 2
  have g3 := Q.out.frozen 3
  have g4 := Q.out.frozen 4
  have g5 := Q.out.frozen 5
  have hk0 : 0 < ws.length := nw_lt hN (by decide)
  go_wp2_with (first
    | (go_at_call 95; refine (meets_yes qFind _ D.out.rd hk0 hN).mono ?_; rintro e w2 ⟨rfl, hr, hg⟩; have D1 := hid (D.out.call hr hg); have P1 := hid (P.out.call hg hbl); have Q1 := hid (Q.out.call hg hbl); clear D P Q hr hg q0 q1 q2 q3 q4 q5 g0 g1 g2 g3 g4 g5; have q0 : w2.cell? ⟨w.heap.size + 1, 0, none⟩ = some (.bool false) := Q1.out.cell 0; have g0 := Q1.out.frozen 0; have q1 : w2.cell? ⟨w.heap.size + 1, 1, none⟩ = some (.slice none 0 0) := Q1.out.cell 1; have g1 := Q1.out.frozen 1; have q2 : w2.cell? ⟨w.heap.size + 1, 2, none⟩ = some (.string ⟨#[]⟩) := Q1.out.cell 2; have g2 := Q1.out.frozen 2; have q3 : w2.cell? ⟨w.heap.size + 1, 3, none⟩ = some (.string ⟨#[]⟩) := Q1.out.cell 3; have g3 := Q1.out.frozen 3; have q4 : w2.cell? ⟨w.heap.size + 1, 4, none⟩ = some (.bool false) := Q1.out.cell 4; have g4 := Q1.out.frozen 4; have q5 : w2.cell? ⟨w.heap.size + 1, 5, none⟩ = some (.int .i64 (-1)) := Q1.out.cell 5; have g5 := Q1.out.frozen 5)
    | (go_at_call 96; refine (must_yes b _).mono ?_; rintro e w3 ⟨rfl, rfl⟩))
  have D := D1
  have P := P1
  have Q := Q1
  clear D1 P1 Q1
  generalize w3 = X at *
  have q0 : X.cell? ⟨w.heap.size + 1, 0, none⟩ = some (.bool false) := Q.out.cell 0
  have q1 : X.cell? ⟨w.heap.size + 1, 1, none⟩ = some (.slice none 0 0) := Q.out.cell 1
  have q2 : X.cell? ⟨w.heap.size + 1, 2, none⟩ = some (.string ⟨#[]⟩) := Q.out.cell 2
  have q3 : X.cell? ⟨w.heap.size + 1, 3, none⟩ = some (.string ⟨#[]⟩) := Q.out.cell 3
  have q4 : X.cell? ⟨w.heap.size + 1, 4, none⟩ = some (.bool false) := Q.out.cell 4
  have q5 : X.cell? ⟨w.heap.size + 1, 5, none⟩ = some (.int .i64 (-1)) := Q.out.cell 5
  have g0 := Q.out.frozen 0
  have g1 := Q.out.frozen 1
  have g2 := Q.out.frozen 2
  have g3 := Q.out.frozen 3
  have g4 := Q.out.frozen 4
  have g5 := Q.out.frozen 5
  have hsz : w.heap.size + 2 ≤ X.heap.size := by have := lt_heap Q.out.blk; omega
  go_wp2_with (first
    | (go_at_call 97; refine (conds_any _ D.out.rd).mono ?_; rintro e w4 hE; obtain ⟨⟨v, rfl, hown⟩, hr, hg⟩ := hE.ok hcs; obtain ⟨va, vc, rfl⟩ := own_forms hown; have O1 := hid (ownB_le hown hsz); clear hE hown; have D1 := hid (D.out.call hr hg); have P1 := hid (P.out.call hg hbl); have Q1 := hid (Q.out.call hg hbl); clear D P Q hr hg q0 q1 q2 q3 q4 q5 g0 g1 g2 g3 g4 g5; have q0 : w4.cell? ⟨w.heap.size + 1, 0, none⟩ = some (.bool false) := Q1.out.cell 0; have g0 := Q1.out.frozen 0; have q1 : w4.cell? ⟨w.heap.size + 1, 1, none⟩ = some (.slice none 0 0) := Q1.out.cell 1; have g1 := Q1.out.frozen 1; have q2 : w4.cell? ⟨w.heap.size + 1, 2, none⟩ = some (.string ⟨#[]⟩) := Q1.out.cell 2; have g2 := Q1.out.frozen 2; have q3 : w4.cell? ⟨w.heap.size + 1, 3, none⟩ = some (.string ⟨#[]⟩) := Q1.out.cell 3; have g3 := Q1.out.frozen 3; have q4 : w4.cell? ⟨w.heap.size + 1, 4, none⟩ = some (.bool false) := Q1.out.cell 4; have g4 := Q1.out.frozen 4; have q5 : w4.cell? ⟨w.heap.size + 1, 5, none⟩ = some (.int .i64 (-1)) := Q1.out.cell 5; have g5 := Q1.out.frozen 5))
  have D := hid (D1.out.set (g := w.heap.size + 1) n3 1 (.slice va cs.length vc))
  have P := hid (P1.out.other (q := w.heap.size + 1) nq 1 (.slice va cs.length vc))
  have Q : Hid (NewB w _ (w.heap.size + 1) [.bool false, .slice va cs.length vc, .string ⟨#[]⟩, .string ⟨#[]⟩, .bool false, .int .i64 (-1)] 25) := hid (Q1.out.set 1 (.slice va cs.length vc))
  have O := hid (own_kept O1.out n4 (grown_set w4 (w.heap.size + 1) 1 (.slice va cs.length vc)))
  clear D1 P1 Q1 O1 q0 q1 q2 q3 q4 q5 g0 g1 g2 g3 g4 g5
  generalize w4.setCell ⟨w.heap.size + 1, 1, none⟩ (.slice va cs.length vc) = X at *
  have q0 : X.cell? ⟨w.heap.size + 1, 0, none⟩ = some (.bool false) := Q.out.cell 0
  have q1 : X.cell? ⟨w.heap.size + 1, 1, none⟩ = some (.slice va cs.length vc) := Q.out.cell 1
  have q2 : X.cell? ⟨w.heap.size + 1, 2, none⟩ = some (.string ⟨#[]⟩) := Q.out.cell 2
  have q3 : X.cell? ⟨w.heap.size + 1, 3, none⟩ = some (.string ⟨#[]⟩) := Q.out.cell 3
  have q4 : X.cell? ⟨w.heap.size + 1, 4, none⟩ = some (.bool false) := Q.out.cell 4
  have q5 : X.cell? ⟨w.heap.size + 1, 5, none⟩ = some (.int .i64 (-1)) := Q.out.cell 5
  have g0 := Q.out.frozen 0
  have g1 := Q.out.frozen 1
  have g2 := Q.out.frozen 2
  have g3 := Q.out.frozen 3
  have g4 := Q.out.frozen 4
  have g5 := Q.out.frozen 5
  go_wp2_with (first
    | (go_at_call 95; refine (meets_no qOrder _ D.out.rd hO).mono ?_; rintro e w6 ⟨rfl, hr, hg⟩; have D1 := hid (D.out.call hr hg); have P1 := hid (P.out.call hg hbl); have Q1 := hid (Q.out.call hg hbl); have O1 := hid (own_kept O.out (by omega) hg); clear O; clear D P Q hr hg q0 q1 q2 q3 q4 q5 g0 g1 g2 g3 g4 g5; have q0 : w6.cell? ⟨w.heap.size + 1, 0, none⟩ = some (.bool false) := Q1.out.cell 0; have g0 := Q1.out.frozen 0; have q1 : w6.cell? ⟨w.heap.size + 1, 1, none⟩ = some (.slice va cs.length vc) := Q1.out.cell 1; have g1 := Q1.out.frozen 1; have q2 : w6.cell? ⟨w.heap.size + 1, 2, none⟩ = some (.string ⟨#[]⟩) := Q1.out.cell 2; have g2 := Q1.out.frozen 2; have q3 : w6.cell? ⟨w.heap.size + 1, 3, none⟩ = some (.string ⟨#[]⟩) := Q1.out.cell 3; have g3 := Q1.out.frozen 3; have q4 : w6.cell? ⟨w.heap.size + 1, 4, none⟩ = some (.bool false) := Q1.out.cell 4; have g4 := Q1.out.frozen 4; have q5 : w6.cell? ⟨w.heap.size + 1, 5, none⟩ = some (.int .i64 (-1)) := Q1.out.cell 5; have g5 := Q1.out.frozen 5))
  have D := D1
  have P := P1
  have Q := Q1
  have O := O1
  clear D1 P1 Q1 O1
  generalize w6 = X at *
  have q0 : X.cell? ⟨w.heap.size + 1, 0, none⟩ = some (.bool false) := Q.out.cell 0
  have q1 : X.cell? ⟨w.heap.size + 1, 1, none⟩ = some (.slice va cs.length vc) := Q.out.cell 1
  have q2 : X.cell? ⟨w.heap.size + 1, 2, none⟩ = some (.string ⟨#[]⟩) := Q.out.cell 2
  have q3 : X.cell? ⟨w.heap.size + 1, 3, none⟩ = some (.string ⟨#[]⟩) := Q.out.cell 3
  have q4 : X.cell? ⟨w.heap.size + 1, 4, none⟩ = some (.bool false) := Q.out.cell 4
  have q5 : X.cell? ⟨w.heap.size + 1, 5, none⟩ = some (.int .i64 (-1)) := Q.out.cell 5
  have g0 := Q.out.frozen 0
  have g1 := Q.out.frozen 1
  have g2 := Q.out.frozen 2
  have g3 := Q.out.frozen 3
  have g4 := Q.out.frozen 4
  have g5 := Q.out.frozen 5
  by_cases hL : nw ws (k) = qLimit
  · have hk : k < ws.length := nw_lt hL (by decide)
    by_cases hLF : numOk (nw ws (k + 1)) 200 = true
    · have hk1 := numOk_lt hLF
      go_wp2_with (first
        | (go_at_call 95; refine (meets_yes qLimit _ D.out.rd hk hL).mono ?_; rintro e w6 ⟨rfl, hr, hg⟩; have D1 := hid (D.out.call hr hg); have P1 := hid (P.out.call hg hbl); have Q1 := hid (Q.out.call hg hbl); have O1 := hid (own_kept O.out (by omega) hg); clear O; clear D P Q hr hg q0 q1 q2 q3 q4 q5 g0 g1 g2 g3 g4 g5; have q0 : w6.cell? ⟨w.heap.size + 1, 0, none⟩ = some (.bool false) := Q1.out.cell 0; have g0 := Q1.out.frozen 0; have q1 : w6.cell? ⟨w.heap.size + 1, 1, none⟩ = some (.slice va cs.length vc) := Q1.out.cell 1; have g1 := Q1.out.frozen 1; have q2 : w6.cell? ⟨w.heap.size + 1, 2, none⟩ = some (.string ⟨#[]⟩) := Q1.out.cell 2; have g2 := Q1.out.frozen 2; have q3 : w6.cell? ⟨w.heap.size + 1, 3, none⟩ = some (.string ⟨#[]⟩) := Q1.out.cell 3; have g3 := Q1.out.frozen 3; have q4 : w6.cell? ⟨w.heap.size + 1, 4, none⟩ = some (.bool false) := Q1.out.cell 4; have g4 := Q1.out.frozen 4; have q5 : w6.cell? ⟨w.heap.size + 1, 5, none⟩ = some (.int .i64 (-1)) := Q1.out.cell 5; have g5 := Q1.out.frozen 5))
      have D := D1
      have P := P1
      have Q := Q1
      have O := O1
      clear D1 P1 Q1 O1
      generalize w6 = X at *
      replace D : Hid (RdG w X b (.slice sa ws.length sc) ws (k + 1) a) := D
      have q0 : X.cell? ⟨w.heap.size + 1, 0, none⟩ = some (.bool false) := Q.out.cell 0
      have q1 : X.cell? ⟨w.heap.size + 1, 1, none⟩ = some (.slice va cs.length vc) := Q.out.cell 1
      have q2 : X.cell? ⟨w.heap.size + 1, 2, none⟩ = some (.string ⟨#[]⟩) := Q.out.cell 2
      have q3 : X.cell? ⟨w.heap.size + 1, 3, none⟩ = some (.string ⟨#[]⟩) := Q.out.cell 3
      have q4 : X.cell? ⟨w.heap.size + 1, 4, none⟩ = some (.bool false) := Q.out.cell 4
      have q5 : X.cell? ⟨w.heap.size + 1, 5, none⟩ = some (.int .i64 (-1)) := Q.out.cell 5
      have g0 := Q.out.frozen 0
      have g1 := Q.out.frozen 1
      have g2 := Q.out.frozen 2
      have g3 := Q.out.frozen 3
      have g4 := Q.out.frozen 4
      have g5 := Q.out.frozen 5
      go_wp2_with (first
        | (go_at_call 99; refine (number_ok 200 _ D.out.rd hk1 hLF).mono ?_; rintro e w7 ⟨rfl, hr, hg⟩; have D1 := hid (D.out.call hr hg); have P1 := hid (P.out.call hg hbl); have Q1 := hid (Q.out.call hg hbl); have O1 := hid (own_kept O.out (by omega) hg); clear O; clear D P Q hr hg q0 q1 q2 q3 q4 q5 g0 g1 g2 g3 g4 g5; have q0 : w7.cell? ⟨w.heap.size + 1, 0, none⟩ = some (.bool false) := Q1.out.cell 0; have g0 := Q1.out.frozen 0; have q1 : w7.cell? ⟨w.heap.size + 1, 1, none⟩ = some (.slice va cs.length vc) := Q1.out.cell 1; have g1 := Q1.out.frozen 1; have q2 : w7.cell? ⟨w.heap.size + 1, 2, none⟩ = some (.string ⟨#[]⟩) := Q1.out.cell 2; have g2 := Q1.out.frozen 2; have q3 : w7.cell? ⟨w.heap.size + 1, 3, none⟩ = some (.string ⟨#[]⟩) := Q1.out.cell 3; have g3 := Q1.out.frozen 3; have q4 : w7.cell? ⟨w.heap.size + 1, 4, none⟩ = some (.bool false) := Q1.out.cell 4; have g4 := Q1.out.frozen 4; have q5 : w7.cell? ⟨w.heap.size + 1, 5, none⟩ = some (.int .i64 (-1)) := Q1.out.cell 5; have g5 := Q1.out.frozen 5))
      have D := hid (D1.out.set (g := w.heap.size + 1) n3 5 (.int .i64 (numN (nw ws (k + 1)))))
      have P := hid (P1.out.other (q := w.heap.size + 1) nq 5 (.int .i64 (numN (nw ws (k + 1)))))
      have Q : Hid (NewB w _ (w.heap.size + 1) [.bool false, .slice va cs.length vc, .string ⟨#[]⟩, .string ⟨#[]⟩, .bool false, .int .i64 (numN (nw ws (k + 1)))] 25) := hid (Q1.out.set 5 (.int .i64 (numN (nw ws (k + 1)))))
      have O := hid (own_kept O1.out n4 (grown_set w7 (w.heap.size + 1) 5 (.int .i64 (numN (nw ws (k + 1))))))
      clear D1 P1 Q1 O1 q0 q1 q2 q3 q4 q5 g0 g1 g2 g3 g4 g5
      generalize w7.setCell ⟨w.heap.size + 1, 5, none⟩ (.int .i64 (numN (nw ws (k + 1)))) = X at *
      have q0 : X.cell? ⟨w.heap.size + 1, 0, none⟩ = some (.bool false) := Q.out.cell 0
      have q1 : X.cell? ⟨w.heap.size + 1, 1, none⟩ = some (.slice va cs.length vc) := Q.out.cell 1
      have q2 : X.cell? ⟨w.heap.size + 1, 2, none⟩ = some (.string ⟨#[]⟩) := Q.out.cell 2
      have q3 : X.cell? ⟨w.heap.size + 1, 3, none⟩ = some (.string ⟨#[]⟩) := Q.out.cell 3
      have q4 : X.cell? ⟨w.heap.size + 1, 4, none⟩ = some (.bool false) := Q.out.cell 4
      have q5 : X.cell? ⟨w.heap.size + 1, 5, none⟩ = some (.int .i64 (numN (nw ws (k + 1)))) := Q.out.cell 5
      have g0 := Q.out.frozen 0
      have g1 := Q.out.frozen 1
      have g2 := Q.out.frozen 2
      have g3 := Q.out.frozen 3
      have g4 := Q.out.frozen 4
      have g5 := Q.out.frozen 5
      replace D : Hid (RdG w X b (.slice sa ws.length sc) ws (k + 2) a) := D
      have e0 : X.cell? ⟨b, 0, none⟩ = some (.slice sa ws.length sc) := by rw [Lib.cell_of_heap D.out.rd.hb]; rfl
      have e1 : X.cell? ⟨b, 1, none⟩ = some (.int .i64 ((k + 2 : Nat) : Int)) := by rw [Lib.cell_of_heap D.out.rd.hb]; rfl
      by_cases hE : k + 2 = ws.length
      · have ze : (((k + 2 : Nat) : Int) == (ws.length : Int)) = true := by rw [beq_iff_eq]; exact_mod_cast hE
        obtain rfl : R = .ok ⟨false, cs, ⟨#[]⟩, ⟨#[]⟩, false, numN (nw ws (k + 1))⟩ := by rw [← hR.out]; first | (simp [rQ, rCnt, rFnd, rBy, rOrd, rLim, rEnd, hN, hfc, hcs, hO, hd1, hd2, hL, hLF]; omega) | (simp [rQ, rCnt, rFnd, rBy, rOrd, rLim, rEnd, hN, hfc, hcs, hO, hd1, hd2, hL, hLF]; exact hE)
        have p0 := P.out.cell 0
        have p1 := P.out.cell 1
        have p2 := P.out.cell 2
        have p3 := P.out.cell 3
        have p4 := P.out.cell 4
        have p5 := P.out.cell 5
        have f0 := P.out.frozen 0
        have f1 := P.out.frozen 1
        have f2 := P.out.frozen 2
        have f3 := P.out.frozen 3
        have f4 := P.out.frozen 4
        have f5 := P.out.frozen 5
        go_quiet ((go_at_call 96; exact Calls.quiet_of_same (must_yes b _)))
        go_wp2
        refine bodyPost_ret (v := .agg #[.bool false, .slice va cs.length vc, .string ⟨#[]⟩, .string ⟨#[]⟩, .bool false, .int .i64 (numN (nw ws (k + 1)))]) (by simp [results, Tryz.results46, go_sem, p0, p1, p2, p3, p4, p5]) rfl ?_
        suffices hF : RdG w _ b (.slice sa ws.length sc) ws (k + 2) a from ⟨⟨_, rfl, ownB_le (own_kept (own_kept (own_kept (own_kept (own_kept (own_kept (own_kept O.out (by omega) (grown_drewN X nq (some b))) (by omega) (grown_set _ w.heap.size 0 _)) (by omega) (grown_set _ w.heap.size 1 _)) (by omega) (grown_set _ w.heap.size 2 _)) (by omega) (grown_set _ w.heap.size 3 _)) (by omega) (grown_set _ w.heap.size 4 _)) (by omega) (grown_set _ w.heap.size 5 _)) (by omega)⟩, ⟨_, hF.rd⟩, hF.gr⟩
        exact (((((((D.out.below (bel_drewN (Below.refl _ _) nq)).set (g := w.heap.size) (Nat.le_refl _) 0 _).set (g := w.heap.size) (Nat.le_refl _) 1 _).set (g := w.heap.size) (Nat.le_refl _) 2 _).set (g := w.heap.size) (Nat.le_refl _) 3 _).set (g := w.heap.size) (Nat.le_refl _) 4 _).set (g := w.heap.size) (Nat.le_refl _) 5 _)
      · have ze : (((k + 2 : Nat) : Int) == (ws.length : Int)) = false := by rw [beq_eq_false_iff_ne]; intro e; exact hE (by exact_mod_cast e)
        obtain rfl : R = .error (k + 2) := by rw [← hR.out]; first | (simp [rQ, rCnt, rFnd, rBy, rOrd, rLim, rEnd, hN, hfc, hcs, hO, hd1, hd2, hL, hLF]; omega) | (simp [rQ, rCnt, rFnd, rBy, rOrd, rLim, rEnd, hN, hfc, hcs, hO, hd1, hd2, hL, hLF]; exact hE)
        have ze2 := ze
        push_cast at ze2
        go_region_dies
        all_goals (go_at_call 96; (first | refine (must_no b X.drew D.out.rd.er).mono ?_ | refine (must_noB b X.drew _ ze2 D.out.rd.er).mono ?_); rintro e w9 ⟨rfl, rfl⟩; exact ⟨rfl, rfl, (D.out.drew).rd, (D.out.drew).gr⟩)
    · have hno : numOk (nw ws (k + 1)) 200 = false := by simpa using hLF
      go_wp2_with (first
        | (go_at_call 95; refine (meets_yes qLimit _ D.out.rd hk hL).mono ?_; rintro e w6 ⟨rfl, hr, hg⟩; have D1 := hid (D.out.call hr hg); have P1 := hid (P.out.call hg hbl); have Q1 := hid (Q.out.call hg hbl); have O1 := hid (own_kept O.out (by omega) hg); clear O; clear D P Q hr hg q0 q1 q2 q3 q4 q5 g0 g1 g2 g3 g4 g5; have q0 : w6.cell? ⟨w.heap.size + 1, 0, none⟩ = some (.bool false) := Q1.out.cell 0; have g0 := Q1.out.frozen 0; have q1 : w6.cell? ⟨w.heap.size + 1, 1, none⟩ = some (.slice va cs.length vc) := Q1.out.cell 1; have g1 := Q1.out.frozen 1; have q2 : w6.cell? ⟨w.heap.size + 1, 2, none⟩ = some (.string ⟨#[]⟩) := Q1.out.cell 2; have g2 := Q1.out.frozen 2; have q3 : w6.cell? ⟨w.heap.size + 1, 3, none⟩ = some (.string ⟨#[]⟩) := Q1.out.cell 3; have g3 := Q1.out.frozen 3; have q4 : w6.cell? ⟨w.heap.size + 1, 4, none⟩ = some (.bool false) := Q1.out.cell 4; have g4 := Q1.out.frozen 4; have q5 : w6.cell? ⟨w.heap.size + 1, 5, none⟩ = some (.int .i64 (-1)) := Q1.out.cell 5; have g5 := Q1.out.frozen 5))
      have D := D1
      have P := P1
      have Q := Q1
      have O := O1
      clear D1 P1 Q1 O1
      generalize w6 = X at *
      replace D : Hid (RdG w X b (.slice sa ws.length sc) ws (k + 1) a) := D
      have q0 : X.cell? ⟨w.heap.size + 1, 0, none⟩ = some (.bool false) := Q.out.cell 0
      have q1 : X.cell? ⟨w.heap.size + 1, 1, none⟩ = some (.slice va cs.length vc) := Q.out.cell 1
      have q2 : X.cell? ⟨w.heap.size + 1, 2, none⟩ = some (.string ⟨#[]⟩) := Q.out.cell 2
      have q3 : X.cell? ⟨w.heap.size + 1, 3, none⟩ = some (.string ⟨#[]⟩) := Q.out.cell 3
      have q4 : X.cell? ⟨w.heap.size + 1, 4, none⟩ = some (.bool false) := Q.out.cell 4
      have q5 : X.cell? ⟨w.heap.size + 1, 5, none⟩ = some (.int .i64 (-1)) := Q.out.cell 5
      have g0 := Q.out.frozen 0
      have g1 := Q.out.frozen 1
      have g2 := Q.out.frozen 2
      have g3 := Q.out.frozen 3
      have g4 := Q.out.frozen 4
      have g5 := Q.out.frozen 5
      go_wp2_with (first
        | (go_at_call 99; refine (number_no 200 _ D.out.rd hno).mono ?_; rintro e w7 ⟨rfl, hr, hg⟩; have D1 := hid (D.out.call hr hg); have P1 := hid (P.out.call hg hbl); have Q1 := hid (Q.out.call hg hbl); have O1 := hid (own_kept O.out (by omega) hg); clear O; clear D P Q hr hg q0 q1 q2 q3 q4 q5 g0 g1 g2 g3 g4 g5))
      obtain rfl : R = .error (k + 1) := by rw [← hR.out]; simp [rQ, rCnt, rFnd, rBy, rOrd, rLim, rEnd, hN, hfc, hcs, hO, hd1, hd2, hL, hno]
      exact ⟨rfl, rfl, D1.out.rd, D1.out.gr⟩
  · go_wp2_with (first
      | (go_at_call 95; refine (meets_no qLimit _ D.out.rd hL).mono ?_; rintro e w6 ⟨rfl, hr, hg⟩; have D1 := hid (D.out.call hr hg); have P1 := hid (P.out.call hg hbl); have Q1 := hid (Q.out.call hg hbl); have O1 := hid (own_kept O.out (by omega) hg); clear O; clear D P Q hr hg q0 q1 q2 q3 q4 q5 g0 g1 g2 g3 g4 g5; have q0 : w6.cell? ⟨w.heap.size + 1, 0, none⟩ = some (.bool false) := Q1.out.cell 0; have g0 := Q1.out.frozen 0; have q1 : w6.cell? ⟨w.heap.size + 1, 1, none⟩ = some (.slice va cs.length vc) := Q1.out.cell 1; have g1 := Q1.out.frozen 1; have q2 : w6.cell? ⟨w.heap.size + 1, 2, none⟩ = some (.string ⟨#[]⟩) := Q1.out.cell 2; have g2 := Q1.out.frozen 2; have q3 : w6.cell? ⟨w.heap.size + 1, 3, none⟩ = some (.string ⟨#[]⟩) := Q1.out.cell 3; have g3 := Q1.out.frozen 3; have q4 : w6.cell? ⟨w.heap.size + 1, 4, none⟩ = some (.bool false) := Q1.out.cell 4; have g4 := Q1.out.frozen 4; have q5 : w6.cell? ⟨w.heap.size + 1, 5, none⟩ = some (.int .i64 (-1)) := Q1.out.cell 5; have g5 := Q1.out.frozen 5))
    have D := D1
    have P := P1
    have Q := Q1
    have O := O1
    clear D1 P1 Q1 O1
    generalize w6 = X at *
    have q0 : X.cell? ⟨w.heap.size + 1, 0, none⟩ = some (.bool false) := Q.out.cell 0
    have q1 : X.cell? ⟨w.heap.size + 1, 1, none⟩ = some (.slice va cs.length vc) := Q.out.cell 1
    have q2 : X.cell? ⟨w.heap.size + 1, 2, none⟩ = some (.string ⟨#[]⟩) := Q.out.cell 2
    have q3 : X.cell? ⟨w.heap.size + 1, 3, none⟩ = some (.string ⟨#[]⟩) := Q.out.cell 3
    have q4 : X.cell? ⟨w.heap.size + 1, 4, none⟩ = some (.bool false) := Q.out.cell 4
    have q5 : X.cell? ⟨w.heap.size + 1, 5, none⟩ = some (.int .i64 (-1)) := Q.out.cell 5
    have g0 := Q.out.frozen 0
    have g1 := Q.out.frozen 1
    have g2 := Q.out.frozen 2
    have g3 := Q.out.frozen 3
    have g4 := Q.out.frozen 4
    have g5 := Q.out.frozen 5
    have e0 : X.cell? ⟨b, 0, none⟩ = some (.slice sa ws.length sc) := by rw [Lib.cell_of_heap D.out.rd.hb]; rfl
    have e1 : X.cell? ⟨b, 1, none⟩ = some (.int .i64 ((k : Nat) : Int)) := by rw [Lib.cell_of_heap D.out.rd.hb]; rfl
    by_cases hE : k = ws.length
    · have ze : (((k : Nat) : Int) == (ws.length : Int)) = true := by rw [beq_iff_eq]; exact_mod_cast hE
      obtain rfl : R = .ok ⟨false, cs, ⟨#[]⟩, ⟨#[]⟩, false, -1⟩ := by rw [← hR.out]; first | (simp [rQ, rCnt, rFnd, rBy, rOrd, rLim, rEnd, hN, hfc, hcs, hO, hd1, hd2, hL]; omega) | (simp [rQ, rCnt, rFnd, rBy, rOrd, rLim, rEnd, hN, hfc, hcs, hO, hd1, hd2, hL]; exact hE)
      have p0 := P.out.cell 0
      have p1 := P.out.cell 1
      have p2 := P.out.cell 2
      have p3 := P.out.cell 3
      have p4 := P.out.cell 4
      have p5 := P.out.cell 5
      have f0 := P.out.frozen 0
      have f1 := P.out.frozen 1
      have f2 := P.out.frozen 2
      have f3 := P.out.frozen 3
      have f4 := P.out.frozen 4
      have f5 := P.out.frozen 5
      go_quiet ((go_at_call 96; exact Calls.quiet_of_same (must_yes b _)))
      go_wp2
      refine bodyPost_ret (v := .agg #[.bool false, .slice va cs.length vc, .string ⟨#[]⟩, .string ⟨#[]⟩, .bool false, .int .i64 (-1)]) (by simp [results, Tryz.results46, go_sem, p0, p1, p2, p3, p4, p5]) rfl ?_
      suffices hF : RdG w _ b (.slice sa ws.length sc) ws (k) a from ⟨⟨_, rfl, ownB_le (own_kept (own_kept (own_kept (own_kept (own_kept (own_kept (own_kept O.out (by omega) (grown_drewN X nq (some b))) (by omega) (grown_set _ w.heap.size 0 _)) (by omega) (grown_set _ w.heap.size 1 _)) (by omega) (grown_set _ w.heap.size 2 _)) (by omega) (grown_set _ w.heap.size 3 _)) (by omega) (grown_set _ w.heap.size 4 _)) (by omega) (grown_set _ w.heap.size 5 _)) (by omega)⟩, ⟨_, hF.rd⟩, hF.gr⟩
      exact (((((((D.out.below (bel_drewN (Below.refl _ _) nq)).set (g := w.heap.size) (Nat.le_refl _) 0 _).set (g := w.heap.size) (Nat.le_refl _) 1 _).set (g := w.heap.size) (Nat.le_refl _) 2 _).set (g := w.heap.size) (Nat.le_refl _) 3 _).set (g := w.heap.size) (Nat.le_refl _) 4 _).set (g := w.heap.size) (Nat.le_refl _) 5 _)
    · have ze : (((k : Nat) : Int) == (ws.length : Int)) = false := by rw [beq_eq_false_iff_ne]; intro e; exact hE (by exact_mod_cast e)
      obtain rfl : R = .error (k) := by rw [← hR.out]; first | (simp [rQ, rCnt, rFnd, rBy, rOrd, rLim, rEnd, hN, hfc, hcs, hO, hd1, hd2, hL]; omega) | (simp [rQ, rCnt, rFnd, rBy, rOrd, rLim, rEnd, hN, hfc, hcs, hO, hd1, hd2, hL]; exact hE)
      have ze2 := ze
      push_cast at ze2
      go_region_dies
      all_goals (go_at_call 96; (first | refine (must_no b X.drew D.out.rd.er).mono ?_ | refine (must_noB b X.drew _ ze2 D.out.rd.er).mono ?_); rintro e w9 ⟨rfl, rfl⟩; exact ⟨rfl, rfl, (D.out.drew).rd, (D.out.drew).gr⟩)
end Go.Proofs.YtimlnbfalnkmhaaGreatDoor
