/-
  Queries: what (*spec.l05Reader).cond answers: a contract over the seat's program.
-/
import Derived.Test.YtimlnbfalnkmhaaGreatDoorZRdTm2
import Derived.Test.YtimlnbfalnkmhaaGreatDoorZQpF4
import Derived.Test.YtimlnbfalnkmhaaGreatDoorZQuC
namespace Go.Proofs.YtimlnbfalnkmhaaGreatDoor
open Go.RowKit

/-- How it ends. -/
def EndSC (w : World) (b : Nat) (sv : Value) (ws : List ByteArray) (r : Except Nat (Cd × Nat)) (e : Ending) (w' : World) : Prop := match r with
  | .ok (c, k) => e = .returned (cdV c) ∧ RdS w' b sv ws k false ∧ w.grownBy w' (some b)
  | .error k => (∃ c, e = .returned (cdV c)) ∧ RdS w' b sv ws k true ∧ w.grownBy w' (some b)
theorem l05Num_ok {t : ByteArray} {m : Int} (h : numOk t m = true) (w : World) :
    Calls Tryz.prog 104 #[.string t, .int .i64 m] w fun e w' => e = .returned (.tuple #[.int .i64 (numN t), .bool true]) ∧ w' = w := by
  have := l05Num_any t m w
  rw [h, numV_ok h] at this
  exact this
set_option maxRecDepth 100000 in
set_option maxHeartbeats 4000000 in
theorem scond_okn {b k : Nat} {sv : Value} {ws : List ByteArray} (w : World) (h : RdS w b sv ws k false) (h0 : isF (nw ws k) = true) (h1 : numF (nw ws k) = true) (h2 : numO (nw ws (k + 1)) = true) (h3 : numOk (nw ws (k + 2)) 1000000 = true) :
    Calls Tryz.prog 103 #[.pointer (some ⟨b, 0, none⟩)] w fun e w' => EndSC w b sv ws (rCond3 ws k) e w' := by
  have D0 := hid ((RdT.refl h).alloc (.cells #[.string ⟨#[]⟩, .string ⟨#[]⟩, .string ⟨#[]⟩, .int .i64 0] 67))
  have P0 := hid (NewB.made (w := w) (W := w) [.string ⟨#[]⟩, .string ⟨#[]⟩, .string ⟨#[]⟩, .int .i64 0] 67 (Nat.le_refl _))
  have hbl := lt_heap h.hb
  have hws := h.word
  clear h
  generalize hR' : rCond3 ws k = R
  have hR := hid hR'
  clear hR'
  obtain rfl : R = .ok (⟨nw ws k, nw ws (k + 1), ⟨#[]⟩, numN (nw ws (k + 2))⟩, k + 3) := by rw [← hR.out]; simp [rCond3, rCond, h0, h1, h2, h3]
  clear hR
  have k0 := isF_lt h0
  have k1 := numO_lt h2
  have k2 := numOk_lt h3
  have ho : opR (nw ws k) (nw ws (k + 1)) = true := by simp [opR, h1, h2]
  go_enter Tryz.func103, Tryz.ntmps103
  go_wp2_with (go_at_call 100; refine (word_in _ D0.out.rd k0).mono ?_; rintro e w1 ⟨rfl, hr, hg⟩; have D1 := hid ((D0.out.call hr hg).alloc (.cells #[.string (nw ws k), .string ⟨#[]⟩, .string ⟨#[]⟩, .int .i64 0] 67)); have P1 := hid ((P0.out.call hg hbl).alloc (.cells #[.string (nw ws k), .string ⟨#[]⟩, .string ⟨#[]⟩, .int .i64 0] 67)); have Q1 := hid (NewB.made (w := w) (W := w1) [.string (nw ws k), .string ⟨#[]⟩, .string ⟨#[]⟩, .int .i64 0] 67 (D0.out.call hr hg).gr.size); have n2g : w1.heap.size ≠ w.heap.size := (fun e => by have := lt_heap (P0.out.call hg hbl).blk; omega); clear D0 P0 hr hg)
  generalize w1.alloc (.cells #[.string (nw ws k), .string ⟨#[]⟩, .string ⟨#[]⟩, .int .i64 0] 67) = X at *
  generalize w1.heap.size = g at *
  have n3g : ¬ g = w.heap.size := n2g
  have n4g : ¬ w.heap.size = g := fun e => n2g e.symm
  have q1_0 : X.cell? ⟨g, 0, none⟩ = some (.string (nw ws k)) := Q1.out.cell 0
  have g1_0 := Q1.out.frozen 0
  have q1_1 : X.cell? ⟨g, 1, none⟩ = some (.string ⟨#[]⟩) := Q1.out.cell 1
  have g1_1 := Q1.out.frozen 1
  have q1_2 : X.cell? ⟨g, 2, none⟩ = some (.string ⟨#[]⟩) := Q1.out.cell 2
  have g1_2 := Q1.out.frozen 2
  have q1_3 : X.cell? ⟨g, 3, none⟩ = some (.int .i64 0) := Q1.out.cell 3
  have g1_3 := Q1.out.frozen 3
  go_wp2_with (first
    | (go_at_call 41; refine ((l05Field_any (nw ws k) _)).mono ?_; rintro e w2 ⟨he, hb9⟩; rw [h0] at he; subst he; have D2 := hid (D1.out.below hb9); have P2 := hid (P1.out.below hb9); have Q2 := hid (Q1.out.below hb9); clear D1 P1 Q1 hb9; have q2_0 : w2.cell? ⟨g, 0, none⟩ = some (.string (nw ws k)) := Q2.out.cell 0; have g2_0 := Q2.out.frozen 0; have q2_1 : w2.cell? ⟨g, 1, none⟩ = some (.string ⟨#[]⟩) := Q2.out.cell 1; have g2_1 := Q2.out.frozen 1; have q2_2 : w2.cell? ⟨g, 2, none⟩ = some (.string ⟨#[]⟩) := Q2.out.cell 2; have g2_2 := Q2.out.frozen 2; have q2_3 : w2.cell? ⟨g, 3, none⟩ = some (.int .i64 0) := Q2.out.cell 3; have g2_3 := Q2.out.frozen 3)
    | (go_at_call 101; refine ((need_yes _ D2.out.rd)).mono ?_; rintro e w3 ⟨rfl, hq⟩; rw [← hq] at D2 P2 Q2; clear hq; have D3 := D2; have P3 := P2; have Q3 := Q2; clear D2 P2 Q2; have q3_0 : w3.cell? ⟨g, 0, none⟩ = some (.string (nw ws k)) := Q3.out.cell 0; have g3_0 := Q3.out.frozen 0; have q3_1 : w3.cell? ⟨g, 1, none⟩ = some (.string ⟨#[]⟩) := Q3.out.cell 1; have g3_1 := Q3.out.frozen 1; have q3_2 : w3.cell? ⟨g, 2, none⟩ = some (.string ⟨#[]⟩) := Q3.out.cell 2; have g3_2 := Q3.out.frozen 2; have q3_3 : w3.cell? ⟨g, 3, none⟩ = some (.int .i64 0) := Q3.out.cell 3; have g3_3 := Q3.out.frozen 3)
    | (go_at_call 100; refine ((word_in _ D3.out.rd k1)).mono ?_; rintro e w4 ⟨rfl, hr, hg⟩; have D4 := hid (D3.out.call hr hg); have P4 := hid (P3.out.call hg hbl); have Q4 := hid (Q3.out.call hg hbl); clear D3 P3 Q3 hr hg; have q4_0 : w4.cell? ⟨g, 0, none⟩ = some (.string (nw ws k)) := Q4.out.cell 0; have g4_0 := Q4.out.frozen 0; have q4_1 : w4.cell? ⟨g, 1, none⟩ = some (.string ⟨#[]⟩) := Q4.out.cell 1; have g4_1 := Q4.out.frozen 1; have q4_2 : w4.cell? ⟨g, 2, none⟩ = some (.string ⟨#[]⟩) := Q4.out.cell 2; have g4_2 := Q4.out.frozen 2; have q4_3 : w4.cell? ⟨g, 3, none⟩ = some (.int .i64 0) := Q4.out.cell 3; have g4_3 := Q4.out.frozen 3; have D4 := hid (D4.out.set Q4.out.ge 1 (.string (nw ws (k + 1)))); have P4 := hid (P4.out.other (q := g) n2g 1 (.string (nw ws (k + 1)))); have Q4 := hid (Q4.out.set 1 (.string (nw ws (k + 1)))))
    | (go_at_call 90; refine ((l05Op_any (nw ws k) (nw ws (k + 1)) _)).mono ?_; rintro e w5 ⟨he, hb9⟩; rw [ho] at he; subst he; have D5 := hid (D4.out.below hb9); have P5 := hid (P4.out.below hb9); have Q5 := hid (Q4.out.below hb9); clear D4 P4 Q4 hb9; have q5_0 : w5.cell? ⟨g, 0, none⟩ = some (.string (nw ws k)) := Q5.out.cell 0; have g5_0 := Q5.out.frozen 0; have q5_1 : w5.cell? ⟨g, 1, none⟩ = some (.string (nw ws (k + 1))) := Q5.out.cell 1; have g5_1 := Q5.out.frozen 1; have q5_2 : w5.cell? ⟨g, 2, none⟩ = some (.string ⟨#[]⟩) := Q5.out.cell 2; have g5_2 := Q5.out.frozen 2; have q5_3 : w5.cell? ⟨g, 3, none⟩ = some (.int .i64 0) := Q5.out.cell 3; have g5_3 := Q5.out.frozen 3)
    | (go_at_call 101; refine ((need_yes _ D5.out.rd)).mono ?_; rintro e w6 ⟨rfl, hq⟩; rw [← hq] at D5 P5 Q5; clear hq; have D6 := D5; have P6 := P5; have Q6 := Q5; clear D5 P5 Q5; have q6_0 : w6.cell? ⟨g, 0, none⟩ = some (.string (nw ws k)) := Q6.out.cell 0; have g6_0 := Q6.out.frozen 0; have q6_1 : w6.cell? ⟨g, 1, none⟩ = some (.string (nw ws (k + 1))) := Q6.out.cell 1; have g6_1 := Q6.out.frozen 1; have q6_2 : w6.cell? ⟨g, 2, none⟩ = some (.string ⟨#[]⟩) := Q6.out.cell 2; have g6_2 := Q6.out.frozen 2; have q6_3 : w6.cell? ⟨g, 3, none⟩ = some (.int .i64 0) := Q6.out.cell 3; have g6_3 := Q6.out.frozen 3)
    | (go_at_call 100; refine ((word_in _ D6.out.rd k2)).mono ?_; rintro e w7 ⟨rfl, hr, hg⟩; have D7 := hid (D6.out.call hr hg); have P7 := hid (P6.out.call hg hbl); have Q7 := hid (Q6.out.call hg hbl); clear D6 P6 Q6 hr hg; have q7_0 : w7.cell? ⟨g, 0, none⟩ = some (.string (nw ws k)) := Q7.out.cell 0; have g7_0 := Q7.out.frozen 0; have q7_1 : w7.cell? ⟨g, 1, none⟩ = some (.string (nw ws (k + 1))) := Q7.out.cell 1; have g7_1 := Q7.out.frozen 1; have q7_2 : w7.cell? ⟨g, 2, none⟩ = some (.string ⟨#[]⟩) := Q7.out.cell 2; have g7_2 := Q7.out.frozen 2; have q7_3 : w7.cell? ⟨g, 3, none⟩ = some (.int .i64 0) := Q7.out.cell 3; have g7_3 := Q7.out.frozen 3)
    | (go_at_call 35; refine ((l05Number_any (nw ws k) _)).mono ?_; rintro e w8 ⟨he, hb9⟩; rw [h1] at he; subst he; have D8 := hid (D7.out.below hb9); have P8 := hid (P7.out.below hb9); have Q8 := hid (Q7.out.below hb9); clear D7 P7 Q7 hb9; have q8_0 : w8.cell? ⟨g, 0, none⟩ = some (.string (nw ws k)) := Q8.out.cell 0; have g8_0 := Q8.out.frozen 0; have q8_1 : w8.cell? ⟨g, 1, none⟩ = some (.string (nw ws (k + 1))) := Q8.out.cell 1; have g8_1 := Q8.out.frozen 1; have q8_2 : w8.cell? ⟨g, 2, none⟩ = some (.string ⟨#[]⟩) := Q8.out.cell 2; have g8_2 := Q8.out.frozen 2; have q8_3 : w8.cell? ⟨g, 3, none⟩ = some (.int .i64 0) := Q8.out.cell 3; have g8_3 := Q8.out.frozen 3)
    | (go_at_call 104; refine ((l05Num_ok h3 _)).mono ?_; rintro e w9 ⟨rfl, hq⟩; rw [← hq] at D8 P8 Q8; clear hq; have D9 := D8; have P9 := P8; have Q9 := Q8; clear D8 P8 Q8; have q9_0 : w9.cell? ⟨g, 0, none⟩ = some (.string (nw ws k)) := Q9.out.cell 0; have g9_0 := Q9.out.frozen 0; have q9_1 : w9.cell? ⟨g, 1, none⟩ = some (.string (nw ws (k + 1))) := Q9.out.cell 1; have g9_1 := Q9.out.frozen 1; have q9_2 : w9.cell? ⟨g, 2, none⟩ = some (.string ⟨#[]⟩) := Q9.out.cell 2; have g9_2 := Q9.out.frozen 2; have q9_3 : w9.cell? ⟨g, 3, none⟩ = some (.int .i64 0) := Q9.out.cell 3; have g9_3 := Q9.out.frozen 3; have D9 := hid (D9.out.set Q9.out.ge 3 (.int .i64 (numN (nw ws (k + 2))))); have P9 := hid (P9.out.other (q := g) n2g 3 (.int .i64 (numN (nw ws (k + 2))))); have Q9 := hid (Q9.out.set 3 (.int .i64 (numN (nw ws (k + 2))))))
    | (go_at_call 101; refine ((need_yes _ D9.out.rd)).mono ?_; rintro e w10 ⟨rfl, hq⟩; rw [← hq] at D9 P9 Q9; clear hq; have D10 := D9; have P10 := P9; have Q10 := Q9; clear D9 P9 Q9; have q10_0 : w10.cell? ⟨g, 0, none⟩ = some (.string (nw ws k)) := Q10.out.cell 0; have g10_0 := Q10.out.frozen 0; have q10_1 : w10.cell? ⟨g, 1, none⟩ = some (.string (nw ws (k + 1))) := Q10.out.cell 1; have g10_1 := Q10.out.frozen 1; have q10_2 : w10.cell? ⟨g, 2, none⟩ = some (.string ⟨#[]⟩) := Q10.out.cell 2; have g10_2 := Q10.out.frozen 2; have q10_3 : w10.cell? ⟨g, 3, none⟩ = some (.int .i64 (numN (nw ws (k + 2)))) := Q10.out.cell 3; have g10_3 := Q10.out.frozen 3; have p0 := P10.out.cell 0; have f0 := P10.out.frozen 0; have p1 := P10.out.cell 1; have f1 := P10.out.frozen 1; have p2 := P10.out.cell 2; have f2 := P10.out.frozen 2; have p3 := P10.out.cell 3; have f3 := P10.out.frozen 3))
  refine bodyPost_ret (v := .agg #[.string (nw ws k), .string (nw ws (k + 1)), .string ⟨#[]⟩, .int .i64 (numN (nw ws (k + 2)))]) (by simp [results, Tryz.results103, go_sem, p0, p1, p2, p3]) rfl ?_
  suffices hF : RdT w _ b sv ws (k + 3) false from ⟨rfl, hF.rd, hF.gr⟩
  exact ((((D10.out.set (g := w.heap.size) (Nat.le_refl _) 0 _).set (g := w.heap.size) (Nat.le_refl _) 1 _).set (g := w.heap.size) (Nat.le_refl _) 2 _).set (g := w.heap.size) (Nat.le_refl _) 3 _)
set_option maxRecDepth 100000 in
set_option maxHeartbeats 4000000 in
theorem scond_okw {b k : Nat} {sv : Value} {ws : List ByteArray} (w : World) (h : RdS w b sv ws k false) (h0 : isF (nw ws k) = true) (h1 : numF (nw ws k) = false) (h2 : wrdO (nw ws (k + 1)) = true) (h3 : wrdR (nw ws k) (nw ws (k + 2)) = true) :
    Calls Tryz.prog 103 #[.pointer (some ⟨b, 0, none⟩)] w fun e w' => EndSC w b sv ws (rCond3 ws k) e w' := by
  have D0 := hid ((RdT.refl h).alloc (.cells #[.string ⟨#[]⟩, .string ⟨#[]⟩, .string ⟨#[]⟩, .int .i64 0] 67))
  have P0 := hid (NewB.made (w := w) (W := w) [.string ⟨#[]⟩, .string ⟨#[]⟩, .string ⟨#[]⟩, .int .i64 0] 67 (Nat.le_refl _))
  have hbl := lt_heap h.hb
  have hws := h.word
  clear h
  generalize hR' : rCond3 ws k = R
  have hR := hid hR'
  clear hR'
  obtain rfl : R = .ok (⟨nw ws k, nw ws (k + 1), nw ws (k + 2), 0⟩, k + 3) := by rw [← hR.out]; simp [rCond3, rCond, h0, h1, h2, h3]
  clear hR
  have k0 := isF_lt h0
  have k1 := wrdO_lt h2
  have k2 := wrdR_lt h3
  have ho : opR (nw ws k) (nw ws (k + 1)) = true := by simp [opR, h1, h2]
  go_enter Tryz.func103, Tryz.ntmps103
  go_wp2_with (go_at_call 100; refine (word_in _ D0.out.rd k0).mono ?_; rintro e w1 ⟨rfl, hr, hg⟩; have D1 := hid ((D0.out.call hr hg).alloc (.cells #[.string (nw ws k), .string ⟨#[]⟩, .string ⟨#[]⟩, .int .i64 0] 67)); have P1 := hid ((P0.out.call hg hbl).alloc (.cells #[.string (nw ws k), .string ⟨#[]⟩, .string ⟨#[]⟩, .int .i64 0] 67)); have Q1 := hid (NewB.made (w := w) (W := w1) [.string (nw ws k), .string ⟨#[]⟩, .string ⟨#[]⟩, .int .i64 0] 67 (D0.out.call hr hg).gr.size); have n2g : w1.heap.size ≠ w.heap.size := (fun e => by have := lt_heap (P0.out.call hg hbl).blk; omega); clear D0 P0 hr hg)
  generalize w1.alloc (.cells #[.string (nw ws k), .string ⟨#[]⟩, .string ⟨#[]⟩, .int .i64 0] 67) = X at *
  generalize w1.heap.size = g at *
  have n3g : ¬ g = w.heap.size := n2g
  have n4g : ¬ w.heap.size = g := fun e => n2g e.symm
  have q1_0 : X.cell? ⟨g, 0, none⟩ = some (.string (nw ws k)) := Q1.out.cell 0
  have g1_0 := Q1.out.frozen 0
  have q1_1 : X.cell? ⟨g, 1, none⟩ = some (.string ⟨#[]⟩) := Q1.out.cell 1
  have g1_1 := Q1.out.frozen 1
  have q1_2 : X.cell? ⟨g, 2, none⟩ = some (.string ⟨#[]⟩) := Q1.out.cell 2
  have g1_2 := Q1.out.frozen 2
  have q1_3 : X.cell? ⟨g, 3, none⟩ = some (.int .i64 0) := Q1.out.cell 3
  have g1_3 := Q1.out.frozen 3
  go_wp2_with (first
    | (go_at_call 41; refine ((l05Field_any (nw ws k) _)).mono ?_; rintro e w2 ⟨he, hb9⟩; rw [h0] at he; subst he; have D2 := hid (D1.out.below hb9); have P2 := hid (P1.out.below hb9); have Q2 := hid (Q1.out.below hb9); clear D1 P1 Q1 hb9; have q2_0 : w2.cell? ⟨g, 0, none⟩ = some (.string (nw ws k)) := Q2.out.cell 0; have g2_0 := Q2.out.frozen 0; have q2_1 : w2.cell? ⟨g, 1, none⟩ = some (.string ⟨#[]⟩) := Q2.out.cell 1; have g2_1 := Q2.out.frozen 1; have q2_2 : w2.cell? ⟨g, 2, none⟩ = some (.string ⟨#[]⟩) := Q2.out.cell 2; have g2_2 := Q2.out.frozen 2; have q2_3 : w2.cell? ⟨g, 3, none⟩ = some (.int .i64 0) := Q2.out.cell 3; have g2_3 := Q2.out.frozen 3)
    | (go_at_call 101; refine ((need_yes _ D2.out.rd)).mono ?_; rintro e w3 ⟨rfl, hq⟩; rw [← hq] at D2 P2 Q2; clear hq; have D3 := D2; have P3 := P2; have Q3 := Q2; clear D2 P2 Q2; have q3_0 : w3.cell? ⟨g, 0, none⟩ = some (.string (nw ws k)) := Q3.out.cell 0; have g3_0 := Q3.out.frozen 0; have q3_1 : w3.cell? ⟨g, 1, none⟩ = some (.string ⟨#[]⟩) := Q3.out.cell 1; have g3_1 := Q3.out.frozen 1; have q3_2 : w3.cell? ⟨g, 2, none⟩ = some (.string ⟨#[]⟩) := Q3.out.cell 2; have g3_2 := Q3.out.frozen 2; have q3_3 : w3.cell? ⟨g, 3, none⟩ = some (.int .i64 0) := Q3.out.cell 3; have g3_3 := Q3.out.frozen 3)
    | (go_at_call 100; refine ((word_in _ D3.out.rd k1)).mono ?_; rintro e w4 ⟨rfl, hr, hg⟩; have D4 := hid (D3.out.call hr hg); have P4 := hid (P3.out.call hg hbl); have Q4 := hid (Q3.out.call hg hbl); clear D3 P3 Q3 hr hg; have q4_0 : w4.cell? ⟨g, 0, none⟩ = some (.string (nw ws k)) := Q4.out.cell 0; have g4_0 := Q4.out.frozen 0; have q4_1 : w4.cell? ⟨g, 1, none⟩ = some (.string ⟨#[]⟩) := Q4.out.cell 1; have g4_1 := Q4.out.frozen 1; have q4_2 : w4.cell? ⟨g, 2, none⟩ = some (.string ⟨#[]⟩) := Q4.out.cell 2; have g4_2 := Q4.out.frozen 2; have q4_3 : w4.cell? ⟨g, 3, none⟩ = some (.int .i64 0) := Q4.out.cell 3; have g4_3 := Q4.out.frozen 3; have D4 := hid (D4.out.set Q4.out.ge 1 (.string (nw ws (k + 1)))); have P4 := hid (P4.out.other (q := g) n2g 1 (.string (nw ws (k + 1)))); have Q4 := hid (Q4.out.set 1 (.string (nw ws (k + 1)))))
    | (go_at_call 90; refine ((l05Op_any (nw ws k) (nw ws (k + 1)) _)).mono ?_; rintro e w5 ⟨he, hb9⟩; rw [ho] at he; subst he; have D5 := hid (D4.out.below hb9); have P5 := hid (P4.out.below hb9); have Q5 := hid (Q4.out.below hb9); clear D4 P4 Q4 hb9; have q5_0 : w5.cell? ⟨g, 0, none⟩ = some (.string (nw ws k)) := Q5.out.cell 0; have g5_0 := Q5.out.frozen 0; have q5_1 : w5.cell? ⟨g, 1, none⟩ = some (.string (nw ws (k + 1))) := Q5.out.cell 1; have g5_1 := Q5.out.frozen 1; have q5_2 : w5.cell? ⟨g, 2, none⟩ = some (.string ⟨#[]⟩) := Q5.out.cell 2; have g5_2 := Q5.out.frozen 2; have q5_3 : w5.cell? ⟨g, 3, none⟩ = some (.int .i64 0) := Q5.out.cell 3; have g5_3 := Q5.out.frozen 3)
    | (go_at_call 101; refine ((need_yes _ D5.out.rd)).mono ?_; rintro e w6 ⟨rfl, hq⟩; rw [← hq] at D5 P5 Q5; clear hq; have D6 := D5; have P6 := P5; have Q6 := Q5; clear D5 P5 Q5; have q6_0 : w6.cell? ⟨g, 0, none⟩ = some (.string (nw ws k)) := Q6.out.cell 0; have g6_0 := Q6.out.frozen 0; have q6_1 : w6.cell? ⟨g, 1, none⟩ = some (.string (nw ws (k + 1))) := Q6.out.cell 1; have g6_1 := Q6.out.frozen 1; have q6_2 : w6.cell? ⟨g, 2, none⟩ = some (.string ⟨#[]⟩) := Q6.out.cell 2; have g6_2 := Q6.out.frozen 2; have q6_3 : w6.cell? ⟨g, 3, none⟩ = some (.int .i64 0) := Q6.out.cell 3; have g6_3 := Q6.out.frozen 3)
    | (go_at_call 100; refine ((word_in _ D6.out.rd k2)).mono ?_; rintro e w7 ⟨rfl, hr, hg⟩; have D7 := hid (D6.out.call hr hg); have P7 := hid (P6.out.call hg hbl); have Q7 := hid (Q6.out.call hg hbl); clear D6 P6 Q6 hr hg; have q7_0 : w7.cell? ⟨g, 0, none⟩ = some (.string (nw ws k)) := Q7.out.cell 0; have g7_0 := Q7.out.frozen 0; have q7_1 : w7.cell? ⟨g, 1, none⟩ = some (.string (nw ws (k + 1))) := Q7.out.cell 1; have g7_1 := Q7.out.frozen 1; have q7_2 : w7.cell? ⟨g, 2, none⟩ = some (.string ⟨#[]⟩) := Q7.out.cell 2; have g7_2 := Q7.out.frozen 2; have q7_3 : w7.cell? ⟨g, 3, none⟩ = some (.int .i64 0) := Q7.out.cell 3; have g7_3 := Q7.out.frozen 3)
    | (go_at_call 35; refine ((l05Number_any (nw ws k) _)).mono ?_; rintro e w8 ⟨he, hb9⟩; rw [h1] at he; subst he; have D8 := hid (D7.out.below hb9); have P8 := hid (P7.out.below hb9); have Q8 := hid (Q7.out.below hb9); clear D7 P7 Q7 hb9; have q8_0 : w8.cell? ⟨g, 0, none⟩ = some (.string (nw ws k)) := Q8.out.cell 0; have g8_0 := Q8.out.frozen 0; have q8_1 : w8.cell? ⟨g, 1, none⟩ = some (.string (nw ws (k + 1))) := Q8.out.cell 1; have g8_1 := Q8.out.frozen 1; have q8_2 : w8.cell? ⟨g, 2, none⟩ = some (.string ⟨#[]⟩) := Q8.out.cell 2; have g8_2 := Q8.out.frozen 2; have q8_3 : w8.cell? ⟨g, 3, none⟩ = some (.int .i64 0) := Q8.out.cell 3; have g8_3 := Q8.out.frozen 3; have D8 := hid (D8.out.set Q8.out.ge 2 (.string (nw ws (k + 2)))); have P8 := hid (P8.out.other (q := g) n2g 2 (.string (nw ws (k + 2)))); have Q8 := hid (Q8.out.set 2 (.string (nw ws (k + 2)))))
    | (go_at_call 91; refine ((l05Word_any (nw ws k) (nw ws (k + 2)) _ (by have := hws (k + 2); unfold maxLen; omega))).mono ?_; rintro e w9 ⟨he, hb9⟩; rw [h3] at he; subst he; have D9 := hid (D8.out.below hb9); have P9 := hid (P8.out.below hb9); have Q9 := hid (Q8.out.below hb9); clear D8 P8 Q8 hb9; have q9_0 : w9.cell? ⟨g, 0, none⟩ = some (.string (nw ws k)) := Q9.out.cell 0; have g9_0 := Q9.out.frozen 0; have q9_1 : w9.cell? ⟨g, 1, none⟩ = some (.string (nw ws (k + 1))) := Q9.out.cell 1; have g9_1 := Q9.out.frozen 1; have q9_2 : w9.cell? ⟨g, 2, none⟩ = some (.string (nw ws (k + 2))) := Q9.out.cell 2; have g9_2 := Q9.out.frozen 2; have q9_3 : w9.cell? ⟨g, 3, none⟩ = some (.int .i64 0) := Q9.out.cell 3; have g9_3 := Q9.out.frozen 3)
    | (go_at_call 101; refine ((need_yes _ D9.out.rd)).mono ?_; rintro e w10 ⟨rfl, hq⟩; rw [← hq] at D9 P9 Q9; clear hq; have D10 := D9; have P10 := P9; have Q10 := Q9; clear D9 P9 Q9; have q10_0 : w10.cell? ⟨g, 0, none⟩ = some (.string (nw ws k)) := Q10.out.cell 0; have g10_0 := Q10.out.frozen 0; have q10_1 : w10.cell? ⟨g, 1, none⟩ = some (.string (nw ws (k + 1))) := Q10.out.cell 1; have g10_1 := Q10.out.frozen 1; have q10_2 : w10.cell? ⟨g, 2, none⟩ = some (.string (nw ws (k + 2))) := Q10.out.cell 2; have g10_2 := Q10.out.frozen 2; have q10_3 : w10.cell? ⟨g, 3, none⟩ = some (.int .i64 0) := Q10.out.cell 3; have g10_3 := Q10.out.frozen 3; have p0 := P10.out.cell 0; have f0 := P10.out.frozen 0; have p1 := P10.out.cell 1; have f1 := P10.out.frozen 1; have p2 := P10.out.cell 2; have f2 := P10.out.frozen 2; have p3 := P10.out.cell 3; have f3 := P10.out.frozen 3))
  refine bodyPost_ret (v := .agg #[.string (nw ws k), .string (nw ws (k + 1)), .string (nw ws (k + 2)), .int .i64 0]) (by simp [results, Tryz.results103, go_sem, p0, p1, p2, p3]) rfl ?_
  suffices hF : RdT w _ b sv ws (k + 3) false from ⟨rfl, hF.rd, hF.gr⟩
  exact ((((D10.out.set (g := w.heap.size) (Nat.le_refl _) 0 _).set (g := w.heap.size) (Nat.le_refl _) 1 _).set (g := w.heap.size) (Nat.le_refl _) 2 _).set (g := w.heap.size) (Nat.le_refl _) 3 _)
set_option maxRecDepth 100000 in
set_option maxHeartbeats 4000000 in
theorem scond_e2n {b k : Nat} {sv : Value} {ws : List ByteArray} (w : World) (h : RdS w b sv ws k false) (h0 : isF (nw ws k) = true) (h1 : numF (nw ws k) = true) (h2 : numO (nw ws (k + 1)) = true) (h3 : numOk (nw ws (k + 2)) 1000000 = false) :
    Calls Tryz.prog 103 #[.pointer (some ⟨b, 0, none⟩)] w fun e w' => EndSC w b sv ws (rCond3 ws k) e w' := by
  have D0 := hid ((RdT.refl h).alloc (.cells #[.string ⟨#[]⟩, .string ⟨#[]⟩, .string ⟨#[]⟩, .int .i64 0] 67))
  have P0 := hid (NewB.made (w := w) (W := w) [.string ⟨#[]⟩, .string ⟨#[]⟩, .string ⟨#[]⟩, .int .i64 0] 67 (Nat.le_refl _))
  have hbl := lt_heap h.hb
  have hws := h.word
  clear h
  generalize hR' : rCond3 ws k = R
  have hR := hid hR'
  clear hR'
  obtain rfl : R = .error (k + 2) := by rw [← hR.out]; simp [rCond3, rCond, h0, h1, h2, h3]
  clear hR
  have k0 := isF_lt h0
  have k1 := numO_lt h2
  have ho : opR (nw ws k) (nw ws (k + 1)) = true := by simp [opR, h1, h2]
  go_enter Tryz.func103, Tryz.ntmps103
  go_wp2_with (go_at_call 100; refine (word_in _ D0.out.rd k0).mono ?_; rintro e w1 ⟨rfl, hr, hg⟩; have D1 := hid ((D0.out.call hr hg).alloc (.cells #[.string (nw ws k), .string ⟨#[]⟩, .string ⟨#[]⟩, .int .i64 0] 67)); have P1 := hid ((P0.out.call hg hbl).alloc (.cells #[.string (nw ws k), .string ⟨#[]⟩, .string ⟨#[]⟩, .int .i64 0] 67)); have Q1 := hid (NewB.made (w := w) (W := w1) [.string (nw ws k), .string ⟨#[]⟩, .string ⟨#[]⟩, .int .i64 0] 67 (D0.out.call hr hg).gr.size); have n2g : w1.heap.size ≠ w.heap.size := (fun e => by have := lt_heap (P0.out.call hg hbl).blk; omega); clear D0 P0 hr hg)
  generalize w1.alloc (.cells #[.string (nw ws k), .string ⟨#[]⟩, .string ⟨#[]⟩, .int .i64 0] 67) = X at *
  generalize w1.heap.size = g at *
  have n3g : ¬ g = w.heap.size := n2g
  have n4g : ¬ w.heap.size = g := fun e => n2g e.symm
  have q1_0 : X.cell? ⟨g, 0, none⟩ = some (.string (nw ws k)) := Q1.out.cell 0
  have g1_0 := Q1.out.frozen 0
  have q1_1 : X.cell? ⟨g, 1, none⟩ = some (.string ⟨#[]⟩) := Q1.out.cell 1
  have g1_1 := Q1.out.frozen 1
  have q1_2 : X.cell? ⟨g, 2, none⟩ = some (.string ⟨#[]⟩) := Q1.out.cell 2
  have g1_2 := Q1.out.frozen 2
  have q1_3 : X.cell? ⟨g, 3, none⟩ = some (.int .i64 0) := Q1.out.cell 3
  have g1_3 := Q1.out.frozen 3
  go_wp2_with (first
    | (go_at_call 41; refine ((l05Field_any (nw ws k) _)).mono ?_; rintro e w2 ⟨he, hb9⟩; rw [h0] at he; subst he; have D2 := hid (D1.out.below hb9); have P2 := hid (P1.out.below hb9); have Q2 := hid (Q1.out.below hb9); clear D1 P1 Q1 hb9; have q2_0 : w2.cell? ⟨g, 0, none⟩ = some (.string (nw ws k)) := Q2.out.cell 0; have g2_0 := Q2.out.frozen 0; have q2_1 : w2.cell? ⟨g, 1, none⟩ = some (.string ⟨#[]⟩) := Q2.out.cell 1; have g2_1 := Q2.out.frozen 1; have q2_2 : w2.cell? ⟨g, 2, none⟩ = some (.string ⟨#[]⟩) := Q2.out.cell 2; have g2_2 := Q2.out.frozen 2; have q2_3 : w2.cell? ⟨g, 3, none⟩ = some (.int .i64 0) := Q2.out.cell 3; have g2_3 := Q2.out.frozen 3)
    | (go_at_call 101; refine ((need_yes _ D2.out.rd)).mono ?_; rintro e w3 ⟨rfl, hq⟩; rw [← hq] at D2 P2 Q2; clear hq; have D3 := D2; have P3 := P2; have Q3 := Q2; clear D2 P2 Q2; have q3_0 : w3.cell? ⟨g, 0, none⟩ = some (.string (nw ws k)) := Q3.out.cell 0; have g3_0 := Q3.out.frozen 0; have q3_1 : w3.cell? ⟨g, 1, none⟩ = some (.string ⟨#[]⟩) := Q3.out.cell 1; have g3_1 := Q3.out.frozen 1; have q3_2 : w3.cell? ⟨g, 2, none⟩ = some (.string ⟨#[]⟩) := Q3.out.cell 2; have g3_2 := Q3.out.frozen 2; have q3_3 : w3.cell? ⟨g, 3, none⟩ = some (.int .i64 0) := Q3.out.cell 3; have g3_3 := Q3.out.frozen 3)
    | (go_at_call 100; refine ((word_in _ D3.out.rd k1)).mono ?_; rintro e w4 ⟨rfl, hr, hg⟩; have D4 := hid (D3.out.call hr hg); have P4 := hid (P3.out.call hg hbl); have Q4 := hid (Q3.out.call hg hbl); clear D3 P3 Q3 hr hg; have q4_0 : w4.cell? ⟨g, 0, none⟩ = some (.string (nw ws k)) := Q4.out.cell 0; have g4_0 := Q4.out.frozen 0; have q4_1 : w4.cell? ⟨g, 1, none⟩ = some (.string ⟨#[]⟩) := Q4.out.cell 1; have g4_1 := Q4.out.frozen 1; have q4_2 : w4.cell? ⟨g, 2, none⟩ = some (.string ⟨#[]⟩) := Q4.out.cell 2; have g4_2 := Q4.out.frozen 2; have q4_3 : w4.cell? ⟨g, 3, none⟩ = some (.int .i64 0) := Q4.out.cell 3; have g4_3 := Q4.out.frozen 3; have D4 := hid (D4.out.set Q4.out.ge 1 (.string (nw ws (k + 1)))); have P4 := hid (P4.out.other (q := g) n2g 1 (.string (nw ws (k + 1)))); have Q4 := hid (Q4.out.set 1 (.string (nw ws (k + 1)))))
    | (go_at_call 90; refine ((l05Op_any (nw ws k) (nw ws (k + 1)) _)).mono ?_; rintro e w5 ⟨he, hb9⟩; rw [ho] at he; subst he; have D5 := hid (D4.out.below hb9); have P5 := hid (P4.out.below hb9); have Q5 := hid (Q4.out.below hb9); clear D4 P4 Q4 hb9; have q5_0 : w5.cell? ⟨g, 0, none⟩ = some (.string (nw ws k)) := Q5.out.cell 0; have g5_0 := Q5.out.frozen 0; have q5_1 : w5.cell? ⟨g, 1, none⟩ = some (.string (nw ws (k + 1))) := Q5.out.cell 1; have g5_1 := Q5.out.frozen 1; have q5_2 : w5.cell? ⟨g, 2, none⟩ = some (.string ⟨#[]⟩) := Q5.out.cell 2; have g5_2 := Q5.out.frozen 2; have q5_3 : w5.cell? ⟨g, 3, none⟩ = some (.int .i64 0) := Q5.out.cell 3; have g5_3 := Q5.out.frozen 3)
    | (go_at_call 101; refine ((need_yes _ D5.out.rd)).mono ?_; rintro e w6 ⟨rfl, hq⟩; rw [← hq] at D5 P5 Q5; clear hq; have D6 := D5; have P6 := P5; have Q6 := Q5; clear D5 P5 Q5; have q6_0 : w6.cell? ⟨g, 0, none⟩ = some (.string (nw ws k)) := Q6.out.cell 0; have g6_0 := Q6.out.frozen 0; have q6_1 : w6.cell? ⟨g, 1, none⟩ = some (.string (nw ws (k + 1))) := Q6.out.cell 1; have g6_1 := Q6.out.frozen 1; have q6_2 : w6.cell? ⟨g, 2, none⟩ = some (.string ⟨#[]⟩) := Q6.out.cell 2; have g6_2 := Q6.out.frozen 2; have q6_3 : w6.cell? ⟨g, 3, none⟩ = some (.int .i64 0) := Q6.out.cell 3; have g6_3 := Q6.out.frozen 3)
    | (go_at_call 100; refine ((word_any _ D6.out.rd)).mono ?_; rintro e w7 ⟨rfl, hr, hg⟩; have D7 := hid (D6.out.call hr hg); have P7 := hid (P6.out.call hg hbl); have Q7 := hid (Q6.out.call hg hbl); clear D6 P6 Q6 hr hg; have q7_0 : w7.cell? ⟨g, 0, none⟩ = some (.string (nw ws k)) := Q7.out.cell 0; have g7_0 := Q7.out.frozen 0; have q7_1 : w7.cell? ⟨g, 1, none⟩ = some (.string (nw ws (k + 1))) := Q7.out.cell 1; have g7_1 := Q7.out.frozen 1; have q7_2 : w7.cell? ⟨g, 2, none⟩ = some (.string ⟨#[]⟩) := Q7.out.cell 2; have g7_2 := Q7.out.frozen 2; have q7_3 : w7.cell? ⟨g, 3, none⟩ = some (.int .i64 0) := Q7.out.cell 3; have g7_3 := Q7.out.frozen 3)
    | (go_at_call 35; refine ((l05Number_any (nw ws k) _)).mono ?_; rintro e w8 ⟨he, hb9⟩; rw [h1] at he; subst he; have D8 := hid (D7.out.below hb9); have P8 := hid (P7.out.below hb9); have Q8 := hid (Q7.out.below hb9); clear D7 P7 Q7 hb9; have q8_0 : w8.cell? ⟨g, 0, none⟩ = some (.string (nw ws k)) := Q8.out.cell 0; have g8_0 := Q8.out.frozen 0; have q8_1 : w8.cell? ⟨g, 1, none⟩ = some (.string (nw ws (k + 1))) := Q8.out.cell 1; have g8_1 := Q8.out.frozen 1; have q8_2 : w8.cell? ⟨g, 2, none⟩ = some (.string ⟨#[]⟩) := Q8.out.cell 2; have g8_2 := Q8.out.frozen 2; have q8_3 : w8.cell? ⟨g, 3, none⟩ = some (.int .i64 0) := Q8.out.cell 3; have g8_3 := Q8.out.frozen 3)
    | (go_at_call 104; refine ((l05Num_any (nw ws (k + 2)) 1000000 _)).mono ?_; rintro e w9 ⟨he, hq⟩; rw [h3] at he; subst he; rw [← hq] at D8 P8 Q8; clear hq; have D9 := D8; have P9 := P8; have Q9 := Q8; clear D8 P8 Q8; have q9_0 : w9.cell? ⟨g, 0, none⟩ = some (.string (nw ws k)) := Q9.out.cell 0; have g9_0 := Q9.out.frozen 0; have q9_1 : w9.cell? ⟨g, 1, none⟩ = some (.string (nw ws (k + 1))) := Q9.out.cell 1; have g9_1 := Q9.out.frozen 1; have q9_2 : w9.cell? ⟨g, 2, none⟩ = some (.string ⟨#[]⟩) := Q9.out.cell 2; have g9_2 := Q9.out.frozen 2; have q9_3 : w9.cell? ⟨g, 3, none⟩ = some (.int .i64 0) := Q9.out.cell 3; have g9_3 := Q9.out.frozen 3; have D9 := hid (D9.out.set Q9.out.ge 3 (.int .i64 (numV (nw ws (k + 2))))); have P9 := hid (P9.out.other (q := g) n2g 3 (.int .i64 (numV (nw ws (k + 2))))); have Q9 := hid (Q9.out.set 3 (.int .i64 (numV (nw ws (k + 2))))))
    | (go_at_call 101; refine ((need_f _ D9.out.rd)).mono ?_; rintro e w10 ⟨rfl, hr, hg⟩; have D10 := hid (D9.out.call hr hg); have P10 := hid (P9.out.call hg hbl); have Q10 := hid (Q9.out.call hg hbl); clear D9 P9 Q9 hr hg; have q10_0 : w10.cell? ⟨g, 0, none⟩ = some (.string (nw ws k)) := Q10.out.cell 0; have g10_0 := Q10.out.frozen 0; have q10_1 : w10.cell? ⟨g, 1, none⟩ = some (.string (nw ws (k + 1))) := Q10.out.cell 1; have g10_1 := Q10.out.frozen 1; have q10_2 : w10.cell? ⟨g, 2, none⟩ = some (.string ⟨#[]⟩) := Q10.out.cell 2; have g10_2 := Q10.out.frozen 2; have q10_3 : w10.cell? ⟨g, 3, none⟩ = some (.int .i64 (numV (nw ws (k + 2)))) := Q10.out.cell 3; have g10_3 := Q10.out.frozen 3; have p0 := P10.out.cell 0; have f0 := P10.out.frozen 0; have p1 := P10.out.cell 1; have f1 := P10.out.frozen 1; have p2 := P10.out.cell 2; have f2 := P10.out.frozen 2; have p3 := P10.out.cell 3; have f3 := P10.out.frozen 3))
  refine bodyPost_ret (v := .agg #[.string (nw ws k), .string (nw ws (k + 1)), .string ⟨#[]⟩, .int .i64 (numV (nw ws (k + 2)))]) (by simp [results, Tryz.results103, go_sem, p0, p1, p2, p3]) rfl ?_
  suffices hF : RdT w _ b sv ws (k + 2) true from ⟨⟨⟨(nw ws k), (nw ws (k + 1)), ⟨#[]⟩, (numV (nw ws (k + 2)))⟩, rfl⟩, hF.rd, hF.gr⟩
  exact ((((D10.out.set (g := w.heap.size) (Nat.le_refl _) 0 _).set (g := w.heap.size) (Nat.le_refl _) 1 _).set (g := w.heap.size) (Nat.le_refl _) 2 _).set (g := w.heap.size) (Nat.le_refl _) 3 _)
set_option maxRecDepth 100000 in
set_option maxHeartbeats 4000000 in
theorem scond_e2w {b k : Nat} {sv : Value} {ws : List ByteArray} (w : World) (h : RdS w b sv ws k false) (h0 : isF (nw ws k) = true) (h1 : numF (nw ws k) = false) (h2 : wrdO (nw ws (k + 1)) = true) (h3 : wrdR (nw ws k) (nw ws (k + 2)) = false) :
    Calls Tryz.prog 103 #[.pointer (some ⟨b, 0, none⟩)] w fun e w' => EndSC w b sv ws (rCond3 ws k) e w' := by
  have D0 := hid ((RdT.refl h).alloc (.cells #[.string ⟨#[]⟩, .string ⟨#[]⟩, .string ⟨#[]⟩, .int .i64 0] 67))
  have P0 := hid (NewB.made (w := w) (W := w) [.string ⟨#[]⟩, .string ⟨#[]⟩, .string ⟨#[]⟩, .int .i64 0] 67 (Nat.le_refl _))
  have hbl := lt_heap h.hb
  have hws := h.word
  clear h
  generalize hR' : rCond3 ws k = R
  have hR := hid hR'
  clear hR'
  obtain rfl : R = .error (k + 2) := by rw [← hR.out]; simp [rCond3, rCond, h0, h1, h2, h3]
  clear hR
  have k0 := isF_lt h0
  have k1 := wrdO_lt h2
  have ho : opR (nw ws k) (nw ws (k + 1)) = true := by simp [opR, h1, h2]
  go_enter Tryz.func103, Tryz.ntmps103
  go_wp2_with (go_at_call 100; refine (word_in _ D0.out.rd k0).mono ?_; rintro e w1 ⟨rfl, hr, hg⟩; have D1 := hid ((D0.out.call hr hg).alloc (.cells #[.string (nw ws k), .string ⟨#[]⟩, .string ⟨#[]⟩, .int .i64 0] 67)); have P1 := hid ((P0.out.call hg hbl).alloc (.cells #[.string (nw ws k), .string ⟨#[]⟩, .string ⟨#[]⟩, .int .i64 0] 67)); have Q1 := hid (NewB.made (w := w) (W := w1) [.string (nw ws k), .string ⟨#[]⟩, .string ⟨#[]⟩, .int .i64 0] 67 (D0.out.call hr hg).gr.size); have n2g : w1.heap.size ≠ w.heap.size := (fun e => by have := lt_heap (P0.out.call hg hbl).blk; omega); clear D0 P0 hr hg)
  generalize w1.alloc (.cells #[.string (nw ws k), .string ⟨#[]⟩, .string ⟨#[]⟩, .int .i64 0] 67) = X at *
  generalize w1.heap.size = g at *
  have n3g : ¬ g = w.heap.size := n2g
  have n4g : ¬ w.heap.size = g := fun e => n2g e.symm
  have q1_0 : X.cell? ⟨g, 0, none⟩ = some (.string (nw ws k)) := Q1.out.cell 0
  have g1_0 := Q1.out.frozen 0
  have q1_1 : X.cell? ⟨g, 1, none⟩ = some (.string ⟨#[]⟩) := Q1.out.cell 1
  have g1_1 := Q1.out.frozen 1
  have q1_2 : X.cell? ⟨g, 2, none⟩ = some (.string ⟨#[]⟩) := Q1.out.cell 2
  have g1_2 := Q1.out.frozen 2
  have q1_3 : X.cell? ⟨g, 3, none⟩ = some (.int .i64 0) := Q1.out.cell 3
  have g1_3 := Q1.out.frozen 3
  go_wp2_with (first
    | (go_at_call 41; refine ((l05Field_any (nw ws k) _)).mono ?_; rintro e w2 ⟨he, hb9⟩; rw [h0] at he; subst he; have D2 := hid (D1.out.below hb9); have P2 := hid (P1.out.below hb9); have Q2 := hid (Q1.out.below hb9); clear D1 P1 Q1 hb9; have q2_0 : w2.cell? ⟨g, 0, none⟩ = some (.string (nw ws k)) := Q2.out.cell 0; have g2_0 := Q2.out.frozen 0; have q2_1 : w2.cell? ⟨g, 1, none⟩ = some (.string ⟨#[]⟩) := Q2.out.cell 1; have g2_1 := Q2.out.frozen 1; have q2_2 : w2.cell? ⟨g, 2, none⟩ = some (.string ⟨#[]⟩) := Q2.out.cell 2; have g2_2 := Q2.out.frozen 2; have q2_3 : w2.cell? ⟨g, 3, none⟩ = some (.int .i64 0) := Q2.out.cell 3; have g2_3 := Q2.out.frozen 3)
    | (go_at_call 101; refine ((need_yes _ D2.out.rd)).mono ?_; rintro e w3 ⟨rfl, hq⟩; rw [← hq] at D2 P2 Q2; clear hq; have D3 := D2; have P3 := P2; have Q3 := Q2; clear D2 P2 Q2; have q3_0 : w3.cell? ⟨g, 0, none⟩ = some (.string (nw ws k)) := Q3.out.cell 0; have g3_0 := Q3.out.frozen 0; have q3_1 : w3.cell? ⟨g, 1, none⟩ = some (.string ⟨#[]⟩) := Q3.out.cell 1; have g3_1 := Q3.out.frozen 1; have q3_2 : w3.cell? ⟨g, 2, none⟩ = some (.string ⟨#[]⟩) := Q3.out.cell 2; have g3_2 := Q3.out.frozen 2; have q3_3 : w3.cell? ⟨g, 3, none⟩ = some (.int .i64 0) := Q3.out.cell 3; have g3_3 := Q3.out.frozen 3)
    | (go_at_call 100; refine ((word_in _ D3.out.rd k1)).mono ?_; rintro e w4 ⟨rfl, hr, hg⟩; have D4 := hid (D3.out.call hr hg); have P4 := hid (P3.out.call hg hbl); have Q4 := hid (Q3.out.call hg hbl); clear D3 P3 Q3 hr hg; have q4_0 : w4.cell? ⟨g, 0, none⟩ = some (.string (nw ws k)) := Q4.out.cell 0; have g4_0 := Q4.out.frozen 0; have q4_1 : w4.cell? ⟨g, 1, none⟩ = some (.string ⟨#[]⟩) := Q4.out.cell 1; have g4_1 := Q4.out.frozen 1; have q4_2 : w4.cell? ⟨g, 2, none⟩ = some (.string ⟨#[]⟩) := Q4.out.cell 2; have g4_2 := Q4.out.frozen 2; have q4_3 : w4.cell? ⟨g, 3, none⟩ = some (.int .i64 0) := Q4.out.cell 3; have g4_3 := Q4.out.frozen 3; have D4 := hid (D4.out.set Q4.out.ge 1 (.string (nw ws (k + 1)))); have P4 := hid (P4.out.other (q := g) n2g 1 (.string (nw ws (k + 1)))); have Q4 := hid (Q4.out.set 1 (.string (nw ws (k + 1)))))
    | (go_at_call 90; refine ((l05Op_any (nw ws k) (nw ws (k + 1)) _)).mono ?_; rintro e w5 ⟨he, hb9⟩; rw [ho] at he; subst he; have D5 := hid (D4.out.below hb9); have P5 := hid (P4.out.below hb9); have Q5 := hid (Q4.out.below hb9); clear D4 P4 Q4 hb9; have q5_0 : w5.cell? ⟨g, 0, none⟩ = some (.string (nw ws k)) := Q5.out.cell 0; have g5_0 := Q5.out.frozen 0; have q5_1 : w5.cell? ⟨g, 1, none⟩ = some (.string (nw ws (k + 1))) := Q5.out.cell 1; have g5_1 := Q5.out.frozen 1; have q5_2 : w5.cell? ⟨g, 2, none⟩ = some (.string ⟨#[]⟩) := Q5.out.cell 2; have g5_2 := Q5.out.frozen 2; have q5_3 : w5.cell? ⟨g, 3, none⟩ = some (.int .i64 0) := Q5.out.cell 3; have g5_3 := Q5.out.frozen 3)
    | (go_at_call 101; refine ((need_yes _ D5.out.rd)).mono ?_; rintro e w6 ⟨rfl, hq⟩; rw [← hq] at D5 P5 Q5; clear hq; have D6 := D5; have P6 := P5; have Q6 := Q5; clear D5 P5 Q5; have q6_0 : w6.cell? ⟨g, 0, none⟩ = some (.string (nw ws k)) := Q6.out.cell 0; have g6_0 := Q6.out.frozen 0; have q6_1 : w6.cell? ⟨g, 1, none⟩ = some (.string (nw ws (k + 1))) := Q6.out.cell 1; have g6_1 := Q6.out.frozen 1; have q6_2 : w6.cell? ⟨g, 2, none⟩ = some (.string ⟨#[]⟩) := Q6.out.cell 2; have g6_2 := Q6.out.frozen 2; have q6_3 : w6.cell? ⟨g, 3, none⟩ = some (.int .i64 0) := Q6.out.cell 3; have g6_3 := Q6.out.frozen 3)
    | (go_at_call 100; refine ((word_any _ D6.out.rd)).mono ?_; rintro e w7 ⟨rfl, hr, hg⟩; have D7 := hid (D6.out.call hr hg); have P7 := hid (P6.out.call hg hbl); have Q7 := hid (Q6.out.call hg hbl); clear D6 P6 Q6 hr hg; have q7_0 : w7.cell? ⟨g, 0, none⟩ = some (.string (nw ws k)) := Q7.out.cell 0; have g7_0 := Q7.out.frozen 0; have q7_1 : w7.cell? ⟨g, 1, none⟩ = some (.string (nw ws (k + 1))) := Q7.out.cell 1; have g7_1 := Q7.out.frozen 1; have q7_2 : w7.cell? ⟨g, 2, none⟩ = some (.string ⟨#[]⟩) := Q7.out.cell 2; have g7_2 := Q7.out.frozen 2; have q7_3 : w7.cell? ⟨g, 3, none⟩ = some (.int .i64 0) := Q7.out.cell 3; have g7_3 := Q7.out.frozen 3)
    | (go_at_call 35; refine ((l05Number_any (nw ws k) _)).mono ?_; rintro e w8 ⟨he, hb9⟩; rw [h1] at he; subst he; have D8 := hid (D7.out.below hb9); have P8 := hid (P7.out.below hb9); have Q8 := hid (Q7.out.below hb9); clear D7 P7 Q7 hb9; have q8_0 : w8.cell? ⟨g, 0, none⟩ = some (.string (nw ws k)) := Q8.out.cell 0; have g8_0 := Q8.out.frozen 0; have q8_1 : w8.cell? ⟨g, 1, none⟩ = some (.string (nw ws (k + 1))) := Q8.out.cell 1; have g8_1 := Q8.out.frozen 1; have q8_2 : w8.cell? ⟨g, 2, none⟩ = some (.string ⟨#[]⟩) := Q8.out.cell 2; have g8_2 := Q8.out.frozen 2; have q8_3 : w8.cell? ⟨g, 3, none⟩ = some (.int .i64 0) := Q8.out.cell 3; have g8_3 := Q8.out.frozen 3; have D8 := hid (D8.out.set Q8.out.ge 2 (.string (nw ws (k + 2)))); have P8 := hid (P8.out.other (q := g) n2g 2 (.string (nw ws (k + 2)))); have Q8 := hid (Q8.out.set 2 (.string (nw ws (k + 2)))))
    | (go_at_call 91; refine ((l05Word_any (nw ws k) (nw ws (k + 2)) _ (by have := hws (k + 2); unfold maxLen; omega))).mono ?_; rintro e w9 ⟨he, hb9⟩; rw [h3] at he; subst he; have D9 := hid (D8.out.below hb9); have P9 := hid (P8.out.below hb9); have Q9 := hid (Q8.out.below hb9); clear D8 P8 Q8 hb9; have q9_0 : w9.cell? ⟨g, 0, none⟩ = some (.string (nw ws k)) := Q9.out.cell 0; have g9_0 := Q9.out.frozen 0; have q9_1 : w9.cell? ⟨g, 1, none⟩ = some (.string (nw ws (k + 1))) := Q9.out.cell 1; have g9_1 := Q9.out.frozen 1; have q9_2 : w9.cell? ⟨g, 2, none⟩ = some (.string (nw ws (k + 2))) := Q9.out.cell 2; have g9_2 := Q9.out.frozen 2; have q9_3 : w9.cell? ⟨g, 3, none⟩ = some (.int .i64 0) := Q9.out.cell 3; have g9_3 := Q9.out.frozen 3)
    | (go_at_call 101; refine ((need_f _ D9.out.rd)).mono ?_; rintro e w10 ⟨rfl, hr, hg⟩; have D10 := hid (D9.out.call hr hg); have P10 := hid (P9.out.call hg hbl); have Q10 := hid (Q9.out.call hg hbl); clear D9 P9 Q9 hr hg; have q10_0 : w10.cell? ⟨g, 0, none⟩ = some (.string (nw ws k)) := Q10.out.cell 0; have g10_0 := Q10.out.frozen 0; have q10_1 : w10.cell? ⟨g, 1, none⟩ = some (.string (nw ws (k + 1))) := Q10.out.cell 1; have g10_1 := Q10.out.frozen 1; have q10_2 : w10.cell? ⟨g, 2, none⟩ = some (.string (nw ws (k + 2))) := Q10.out.cell 2; have g10_2 := Q10.out.frozen 2; have q10_3 : w10.cell? ⟨g, 3, none⟩ = some (.int .i64 0) := Q10.out.cell 3; have g10_3 := Q10.out.frozen 3; have p0 := P10.out.cell 0; have f0 := P10.out.frozen 0; have p1 := P10.out.cell 1; have f1 := P10.out.frozen 1; have p2 := P10.out.cell 2; have f2 := P10.out.frozen 2; have p3 := P10.out.cell 3; have f3 := P10.out.frozen 3))
  refine bodyPost_ret (v := .agg #[.string (nw ws k), .string (nw ws (k + 1)), .string (nw ws (k + 2)), .int .i64 0]) (by simp [results, Tryz.results103, go_sem, p0, p1, p2, p3]) rfl ?_
  suffices hF : RdT w _ b sv ws (k + 2) true from ⟨⟨⟨(nw ws k), (nw ws (k + 1)), (nw ws (k + 2)), 0⟩, rfl⟩, hF.rd, hF.gr⟩
  exact ((((D10.out.set (g := w.heap.size) (Nat.le_refl _) 0 _).set (g := w.heap.size) (Nat.le_refl _) 1 _).set (g := w.heap.size) (Nat.le_refl _) 2 _).set (g := w.heap.size) (Nat.le_refl _) 3 _)
set_option maxRecDepth 100000 in
set_option maxHeartbeats 4000000 in
theorem scond_e1n {b k : Nat} {sv : Value} {ws : List ByteArray} (w : World) (h : RdS w b sv ws k false) (h0 : isF (nw ws k) = true) (h1 : numF (nw ws k) = true) (h2 : numO (nw ws (k + 1)) = false) :
    Calls Tryz.prog 103 #[.pointer (some ⟨b, 0, none⟩)] w fun e w' => EndSC w b sv ws (rCond3 ws k) e w' := by
  have D0 := hid ((RdT.refl h).alloc (.cells #[.string ⟨#[]⟩, .string ⟨#[]⟩, .string ⟨#[]⟩, .int .i64 0] 67))
  have P0 := hid (NewB.made (w := w) (W := w) [.string ⟨#[]⟩, .string ⟨#[]⟩, .string ⟨#[]⟩, .int .i64 0] 67 (Nat.le_refl _))
  have hbl := lt_heap h.hb
  have hws := h.word
  clear h
  generalize hR' : rCond3 ws k = R
  have hR := hid hR'
  clear hR'
  obtain rfl : R = .error (k + 1) := by rw [← hR.out]; simp [rCond3, rCond, h0, h1, h2]
  clear hR
  have k0 := isF_lt h0
  have ho : opR (nw ws k) (nw ws (k + 1)) = false := by simp [opR, h1, h2]
  go_enter Tryz.func103, Tryz.ntmps103
  go_wp2_with (go_at_call 100; refine (word_in _ D0.out.rd k0).mono ?_; rintro e w1 ⟨rfl, hr, hg⟩; have D1 := hid ((D0.out.call hr hg).alloc (.cells #[.string (nw ws k), .string ⟨#[]⟩, .string ⟨#[]⟩, .int .i64 0] 67)); have P1 := hid ((P0.out.call hg hbl).alloc (.cells #[.string (nw ws k), .string ⟨#[]⟩, .string ⟨#[]⟩, .int .i64 0] 67)); have Q1 := hid (NewB.made (w := w) (W := w1) [.string (nw ws k), .string ⟨#[]⟩, .string ⟨#[]⟩, .int .i64 0] 67 (D0.out.call hr hg).gr.size); have n2g : w1.heap.size ≠ w.heap.size := (fun e => by have := lt_heap (P0.out.call hg hbl).blk; omega); clear D0 P0 hr hg)
  generalize w1.alloc (.cells #[.string (nw ws k), .string ⟨#[]⟩, .string ⟨#[]⟩, .int .i64 0] 67) = X at *
  generalize w1.heap.size = g at *
  have n3g : ¬ g = w.heap.size := n2g
  have n4g : ¬ w.heap.size = g := fun e => n2g e.symm
  have q1_0 : X.cell? ⟨g, 0, none⟩ = some (.string (nw ws k)) := Q1.out.cell 0
  have g1_0 := Q1.out.frozen 0
  have q1_1 : X.cell? ⟨g, 1, none⟩ = some (.string ⟨#[]⟩) := Q1.out.cell 1
  have g1_1 := Q1.out.frozen 1
  have q1_2 : X.cell? ⟨g, 2, none⟩ = some (.string ⟨#[]⟩) := Q1.out.cell 2
  have g1_2 := Q1.out.frozen 2
  have q1_3 : X.cell? ⟨g, 3, none⟩ = some (.int .i64 0) := Q1.out.cell 3
  have g1_3 := Q1.out.frozen 3
  go_wp2_with (first
    | (go_at_call 41; refine ((l05Field_any (nw ws k) _)).mono ?_; rintro e w2 ⟨he, hb9⟩; rw [h0] at he; subst he; have D2 := hid (D1.out.below hb9); have P2 := hid (P1.out.below hb9); have Q2 := hid (Q1.out.below hb9); clear D1 P1 Q1 hb9; have q2_0 : w2.cell? ⟨g, 0, none⟩ = some (.string (nw ws k)) := Q2.out.cell 0; have g2_0 := Q2.out.frozen 0; have q2_1 : w2.cell? ⟨g, 1, none⟩ = some (.string ⟨#[]⟩) := Q2.out.cell 1; have g2_1 := Q2.out.frozen 1; have q2_2 : w2.cell? ⟨g, 2, none⟩ = some (.string ⟨#[]⟩) := Q2.out.cell 2; have g2_2 := Q2.out.frozen 2; have q2_3 : w2.cell? ⟨g, 3, none⟩ = some (.int .i64 0) := Q2.out.cell 3; have g2_3 := Q2.out.frozen 3)
    | (go_at_call 101; refine ((need_yes _ D2.out.rd)).mono ?_; rintro e w3 ⟨rfl, hq⟩; rw [← hq] at D2 P2 Q2; clear hq; have D3 := D2; have P3 := P2; have Q3 := Q2; clear D2 P2 Q2; have q3_0 : w3.cell? ⟨g, 0, none⟩ = some (.string (nw ws k)) := Q3.out.cell 0; have g3_0 := Q3.out.frozen 0; have q3_1 : w3.cell? ⟨g, 1, none⟩ = some (.string ⟨#[]⟩) := Q3.out.cell 1; have g3_1 := Q3.out.frozen 1; have q3_2 : w3.cell? ⟨g, 2, none⟩ = some (.string ⟨#[]⟩) := Q3.out.cell 2; have g3_2 := Q3.out.frozen 2; have q3_3 : w3.cell? ⟨g, 3, none⟩ = some (.int .i64 0) := Q3.out.cell 3; have g3_3 := Q3.out.frozen 3)
    | (go_at_call 100; refine ((word_any _ D3.out.rd)).mono ?_; rintro e w4 ⟨rfl, hr, hg⟩; have D4 := hid (D3.out.call hr hg); have P4 := hid (P3.out.call hg hbl); have Q4 := hid (Q3.out.call hg hbl); clear D3 P3 Q3 hr hg; have q4_0 : w4.cell? ⟨g, 0, none⟩ = some (.string (nw ws k)) := Q4.out.cell 0; have g4_0 := Q4.out.frozen 0; have q4_1 : w4.cell? ⟨g, 1, none⟩ = some (.string ⟨#[]⟩) := Q4.out.cell 1; have g4_1 := Q4.out.frozen 1; have q4_2 : w4.cell? ⟨g, 2, none⟩ = some (.string ⟨#[]⟩) := Q4.out.cell 2; have g4_2 := Q4.out.frozen 2; have q4_3 : w4.cell? ⟨g, 3, none⟩ = some (.int .i64 0) := Q4.out.cell 3; have g4_3 := Q4.out.frozen 3; have D4 := hid (D4.out.set Q4.out.ge 1 (.string (nw ws (k + 1)))); have P4 := hid (P4.out.other (q := g) n2g 1 (.string (nw ws (k + 1)))); have Q4 := hid (Q4.out.set 1 (.string (nw ws (k + 1)))))
    | (go_at_call 90; refine ((l05Op_any (nw ws k) (nw ws (k + 1)) _)).mono ?_; rintro e w5 ⟨he, hb9⟩; rw [ho] at he; subst he; have D5 := hid (D4.out.below hb9); have P5 := hid (P4.out.below hb9); have Q5 := hid (Q4.out.below hb9); clear D4 P4 Q4 hb9; have q5_0 : w5.cell? ⟨g, 0, none⟩ = some (.string (nw ws k)) := Q5.out.cell 0; have g5_0 := Q5.out.frozen 0; have q5_1 : w5.cell? ⟨g, 1, none⟩ = some (.string (nw ws (k + 1))) := Q5.out.cell 1; have g5_1 := Q5.out.frozen 1; have q5_2 : w5.cell? ⟨g, 2, none⟩ = some (.string ⟨#[]⟩) := Q5.out.cell 2; have g5_2 := Q5.out.frozen 2; have q5_3 : w5.cell? ⟨g, 3, none⟩ = some (.int .i64 0) := Q5.out.cell 3; have g5_3 := Q5.out.frozen 3)
    | (go_at_call 101; refine ((need_f _ D5.out.rd)).mono ?_; rintro e w6 ⟨rfl, hr, hg⟩; have D6 := hid (D5.out.call hr hg); have P6 := hid (P5.out.call hg hbl); have Q6 := hid (Q5.out.call hg hbl); clear D5 P5 Q5 hr hg; have q6_0 : w6.cell? ⟨g, 0, none⟩ = some (.string (nw ws k)) := Q6.out.cell 0; have g6_0 := Q6.out.frozen 0; have q6_1 : w6.cell? ⟨g, 1, none⟩ = some (.string (nw ws (k + 1))) := Q6.out.cell 1; have g6_1 := Q6.out.frozen 1; have q6_2 : w6.cell? ⟨g, 2, none⟩ = some (.string ⟨#[]⟩) := Q6.out.cell 2; have g6_2 := Q6.out.frozen 2; have q6_3 : w6.cell? ⟨g, 3, none⟩ = some (.int .i64 0) := Q6.out.cell 3; have g6_3 := Q6.out.frozen 3)
    | (go_at_call 100; refine ((word_bad _ D6.out.rd)).mono ?_; rintro e w7 ⟨rfl, hr, hg⟩; have D7 := hid (D6.out.call hr hg); have P7 := hid (P6.out.call hg hbl); have Q7 := hid (Q6.out.call hg hbl); clear D6 P6 Q6 hr hg; have q7_0 : w7.cell? ⟨g, 0, none⟩ = some (.string (nw ws k)) := Q7.out.cell 0; have g7_0 := Q7.out.frozen 0; have q7_1 : w7.cell? ⟨g, 1, none⟩ = some (.string (nw ws (k + 1))) := Q7.out.cell 1; have g7_1 := Q7.out.frozen 1; have q7_2 : w7.cell? ⟨g, 2, none⟩ = some (.string ⟨#[]⟩) := Q7.out.cell 2; have g7_2 := Q7.out.frozen 2; have q7_3 : w7.cell? ⟨g, 3, none⟩ = some (.int .i64 0) := Q7.out.cell 3; have g7_3 := Q7.out.frozen 3)
    | (go_at_call 35; refine ((l05Number_any (nw ws k) _)).mono ?_; rintro e w8 ⟨he, hb9⟩; rw [h1] at he; subst he; have D8 := hid (D7.out.below hb9); have P8 := hid (P7.out.below hb9); have Q8 := hid (Q7.out.below hb9); clear D7 P7 Q7 hb9; have q8_0 : w8.cell? ⟨g, 0, none⟩ = some (.string (nw ws k)) := Q8.out.cell 0; have g8_0 := Q8.out.frozen 0; have q8_1 : w8.cell? ⟨g, 1, none⟩ = some (.string (nw ws (k + 1))) := Q8.out.cell 1; have g8_1 := Q8.out.frozen 1; have q8_2 : w8.cell? ⟨g, 2, none⟩ = some (.string ⟨#[]⟩) := Q8.out.cell 2; have g8_2 := Q8.out.frozen 2; have q8_3 : w8.cell? ⟨g, 3, none⟩ = some (.int .i64 0) := Q8.out.cell 3; have g8_3 := Q8.out.frozen 3)
    | (go_at_call 104; refine ((l05Num_any ⟨#[]⟩ 1000000 _)).mono ?_; rintro e w9 ⟨he, hq⟩; subst he; rw [← hq] at D8 P8 Q8; clear hq; have D9 := D8; have P9 := P8; have Q9 := Q8; clear D8 P8 Q8; have q9_0 : w9.cell? ⟨g, 0, none⟩ = some (.string (nw ws k)) := Q9.out.cell 0; have g9_0 := Q9.out.frozen 0; have q9_1 : w9.cell? ⟨g, 1, none⟩ = some (.string (nw ws (k + 1))) := Q9.out.cell 1; have g9_1 := Q9.out.frozen 1; have q9_2 : w9.cell? ⟨g, 2, none⟩ = some (.string ⟨#[]⟩) := Q9.out.cell 2; have g9_2 := Q9.out.frozen 2; have q9_3 : w9.cell? ⟨g, 3, none⟩ = some (.int .i64 0) := Q9.out.cell 3; have g9_3 := Q9.out.frozen 3; have D9 := hid (D9.out.set Q9.out.ge 3 (.int .i64 (numV ⟨#[]⟩))); have P9 := hid (P9.out.other (q := g) n2g 3 (.int .i64 (numV ⟨#[]⟩))); have Q9 := hid (Q9.out.set 3 (.int .i64 (numV ⟨#[]⟩))))
    | (go_at_call 101; refine ((need_bad _ _ D9.out.rd)).mono ?_; rintro e w10 ⟨rfl, hq⟩; rw [← hq] at D9 P9 Q9; clear hq; have D10 := D9; have P10 := P9; have Q10 := Q9; clear D9 P9 Q9; have q10_0 : w10.cell? ⟨g, 0, none⟩ = some (.string (nw ws k)) := Q10.out.cell 0; have g10_0 := Q10.out.frozen 0; have q10_1 : w10.cell? ⟨g, 1, none⟩ = some (.string (nw ws (k + 1))) := Q10.out.cell 1; have g10_1 := Q10.out.frozen 1; have q10_2 : w10.cell? ⟨g, 2, none⟩ = some (.string ⟨#[]⟩) := Q10.out.cell 2; have g10_2 := Q10.out.frozen 2; have q10_3 : w10.cell? ⟨g, 3, none⟩ = some (.int .i64 (numV ⟨#[]⟩)) := Q10.out.cell 3; have g10_3 := Q10.out.frozen 3; have p0 := P10.out.cell 0; have f0 := P10.out.frozen 0; have p1 := P10.out.cell 1; have f1 := P10.out.frozen 1; have p2 := P10.out.cell 2; have f2 := P10.out.frozen 2; have p3 := P10.out.cell 3; have f3 := P10.out.frozen 3))
  refine bodyPost_ret (v := .agg #[.string (nw ws k), .string (nw ws (k + 1)), .string ⟨#[]⟩, .int .i64 (numV ⟨#[]⟩)]) (by simp [results, Tryz.results103, go_sem, p0, p1, p2, p3]) rfl ?_
  suffices hF : RdT w _ b sv ws (k + 1) true from ⟨⟨⟨(nw ws k), (nw ws (k + 1)), ⟨#[]⟩, (numV ⟨#[]⟩)⟩, rfl⟩, hF.rd, hF.gr⟩
  exact ((((D10.out.set (g := w.heap.size) (Nat.le_refl _) 0 _).set (g := w.heap.size) (Nat.le_refl _) 1 _).set (g := w.heap.size) (Nat.le_refl _) 2 _).set (g := w.heap.size) (Nat.le_refl _) 3 _)
set_option maxRecDepth 100000 in
set_option maxHeartbeats 4000000 in
theorem scond_e1w {b k : Nat} {sv : Value} {ws : List ByteArray} (w : World) (h : RdS w b sv ws k false) (h0 : isF (nw ws k) = true) (h1 : numF (nw ws k) = false) (h2 : wrdO (nw ws (k + 1)) = false) :
    Calls Tryz.prog 103 #[.pointer (some ⟨b, 0, none⟩)] w fun e w' => EndSC w b sv ws (rCond3 ws k) e w' := by
  have D0 := hid ((RdT.refl h).alloc (.cells #[.string ⟨#[]⟩, .string ⟨#[]⟩, .string ⟨#[]⟩, .int .i64 0] 67))
  have P0 := hid (NewB.made (w := w) (W := w) [.string ⟨#[]⟩, .string ⟨#[]⟩, .string ⟨#[]⟩, .int .i64 0] 67 (Nat.le_refl _))
  have hbl := lt_heap h.hb
  have hws := h.word
  clear h
  generalize hR' : rCond3 ws k = R
  have hR := hid hR'
  clear hR'
  obtain rfl : R = .error (k + 1) := by rw [← hR.out]; simp [rCond3, rCond, h0, h1, h2]
  clear hR
  have k0 := isF_lt h0
  have ho : opR (nw ws k) (nw ws (k + 1)) = false := by simp [opR, h1, h2]
  go_enter Tryz.func103, Tryz.ntmps103
  go_wp2_with (go_at_call 100; refine (word_in _ D0.out.rd k0).mono ?_; rintro e w1 ⟨rfl, hr, hg⟩; have D1 := hid ((D0.out.call hr hg).alloc (.cells #[.string (nw ws k), .string ⟨#[]⟩, .string ⟨#[]⟩, .int .i64 0] 67)); have P1 := hid ((P0.out.call hg hbl).alloc (.cells #[.string (nw ws k), .string ⟨#[]⟩, .string ⟨#[]⟩, .int .i64 0] 67)); have Q1 := hid (NewB.made (w := w) (W := w1) [.string (nw ws k), .string ⟨#[]⟩, .string ⟨#[]⟩, .int .i64 0] 67 (D0.out.call hr hg).gr.size); have n2g : w1.heap.size ≠ w.heap.size := (fun e => by have := lt_heap (P0.out.call hg hbl).blk; omega); clear D0 P0 hr hg)
  generalize w1.alloc (.cells #[.string (nw ws k), .string ⟨#[]⟩, .string ⟨#[]⟩, .int .i64 0] 67) = X at *
  generalize w1.heap.size = g at *
  have n3g : ¬ g = w.heap.size := n2g
  have n4g : ¬ w.heap.size = g := fun e => n2g e.symm
  have q1_0 : X.cell? ⟨g, 0, none⟩ = some (.string (nw ws k)) := Q1.out.cell 0
  have g1_0 := Q1.out.frozen 0
  have q1_1 : X.cell? ⟨g, 1, none⟩ = some (.string ⟨#[]⟩) := Q1.out.cell 1
  have g1_1 := Q1.out.frozen 1
  have q1_2 : X.cell? ⟨g, 2, none⟩ = some (.string ⟨#[]⟩) := Q1.out.cell 2
  have g1_2 := Q1.out.frozen 2
  have q1_3 : X.cell? ⟨g, 3, none⟩ = some (.int .i64 0) := Q1.out.cell 3
  have g1_3 := Q1.out.frozen 3
  go_wp2_with (first
    | (go_at_call 41; refine ((l05Field_any (nw ws k) _)).mono ?_; rintro e w2 ⟨he, hb9⟩; rw [h0] at he; subst he; have D2 := hid (D1.out.below hb9); have P2 := hid (P1.out.below hb9); have Q2 := hid (Q1.out.below hb9); clear D1 P1 Q1 hb9; have q2_0 : w2.cell? ⟨g, 0, none⟩ = some (.string (nw ws k)) := Q2.out.cell 0; have g2_0 := Q2.out.frozen 0; have q2_1 : w2.cell? ⟨g, 1, none⟩ = some (.string ⟨#[]⟩) := Q2.out.cell 1; have g2_1 := Q2.out.frozen 1; have q2_2 : w2.cell? ⟨g, 2, none⟩ = some (.string ⟨#[]⟩) := Q2.out.cell 2; have g2_2 := Q2.out.frozen 2; have q2_3 : w2.cell? ⟨g, 3, none⟩ = some (.int .i64 0) := Q2.out.cell 3; have g2_3 := Q2.out.frozen 3)
    | (go_at_call 101; refine ((need_yes _ D2.out.rd)).mono ?_; rintro e w3 ⟨rfl, hq⟩; rw [← hq] at D2 P2 Q2; clear hq; have D3 := D2; have P3 := P2; have Q3 := Q2; clear D2 P2 Q2; have q3_0 : w3.cell? ⟨g, 0, none⟩ = some (.string (nw ws k)) := Q3.out.cell 0; have g3_0 := Q3.out.frozen 0; have q3_1 : w3.cell? ⟨g, 1, none⟩ = some (.string ⟨#[]⟩) := Q3.out.cell 1; have g3_1 := Q3.out.frozen 1; have q3_2 : w3.cell? ⟨g, 2, none⟩ = some (.string ⟨#[]⟩) := Q3.out.cell 2; have g3_2 := Q3.out.frozen 2; have q3_3 : w3.cell? ⟨g, 3, none⟩ = some (.int .i64 0) := Q3.out.cell 3; have g3_3 := Q3.out.frozen 3)
    | (go_at_call 100; refine ((word_any _ D3.out.rd)).mono ?_; rintro e w4 ⟨rfl, hr, hg⟩; have D4 := hid (D3.out.call hr hg); have P4 := hid (P3.out.call hg hbl); have Q4 := hid (Q3.out.call hg hbl); clear D3 P3 Q3 hr hg; have q4_0 : w4.cell? ⟨g, 0, none⟩ = some (.string (nw ws k)) := Q4.out.cell 0; have g4_0 := Q4.out.frozen 0; have q4_1 : w4.cell? ⟨g, 1, none⟩ = some (.string ⟨#[]⟩) := Q4.out.cell 1; have g4_1 := Q4.out.frozen 1; have q4_2 : w4.cell? ⟨g, 2, none⟩ = some (.string ⟨#[]⟩) := Q4.out.cell 2; have g4_2 := Q4.out.frozen 2; have q4_3 : w4.cell? ⟨g, 3, none⟩ = some (.int .i64 0) := Q4.out.cell 3; have g4_3 := Q4.out.frozen 3; have D4 := hid (D4.out.set Q4.out.ge 1 (.string (nw ws (k + 1)))); have P4 := hid (P4.out.other (q := g) n2g 1 (.string (nw ws (k + 1)))); have Q4 := hid (Q4.out.set 1 (.string (nw ws (k + 1)))))
    | (go_at_call 90; refine ((l05Op_any (nw ws k) (nw ws (k + 1)) _)).mono ?_; rintro e w5 ⟨he, hb9⟩; rw [ho] at he; subst he; have D5 := hid (D4.out.below hb9); have P5 := hid (P4.out.below hb9); have Q5 := hid (Q4.out.below hb9); clear D4 P4 Q4 hb9; have q5_0 : w5.cell? ⟨g, 0, none⟩ = some (.string (nw ws k)) := Q5.out.cell 0; have g5_0 := Q5.out.frozen 0; have q5_1 : w5.cell? ⟨g, 1, none⟩ = some (.string (nw ws (k + 1))) := Q5.out.cell 1; have g5_1 := Q5.out.frozen 1; have q5_2 : w5.cell? ⟨g, 2, none⟩ = some (.string ⟨#[]⟩) := Q5.out.cell 2; have g5_2 := Q5.out.frozen 2; have q5_3 : w5.cell? ⟨g, 3, none⟩ = some (.int .i64 0) := Q5.out.cell 3; have g5_3 := Q5.out.frozen 3)
    | (go_at_call 101; refine ((need_f _ D5.out.rd)).mono ?_; rintro e w6 ⟨rfl, hr, hg⟩; have D6 := hid (D5.out.call hr hg); have P6 := hid (P5.out.call hg hbl); have Q6 := hid (Q5.out.call hg hbl); clear D5 P5 Q5 hr hg; have q6_0 : w6.cell? ⟨g, 0, none⟩ = some (.string (nw ws k)) := Q6.out.cell 0; have g6_0 := Q6.out.frozen 0; have q6_1 : w6.cell? ⟨g, 1, none⟩ = some (.string (nw ws (k + 1))) := Q6.out.cell 1; have g6_1 := Q6.out.frozen 1; have q6_2 : w6.cell? ⟨g, 2, none⟩ = some (.string ⟨#[]⟩) := Q6.out.cell 2; have g6_2 := Q6.out.frozen 2; have q6_3 : w6.cell? ⟨g, 3, none⟩ = some (.int .i64 0) := Q6.out.cell 3; have g6_3 := Q6.out.frozen 3)
    | (go_at_call 100; refine ((word_bad _ D6.out.rd)).mono ?_; rintro e w7 ⟨rfl, hr, hg⟩; have D7 := hid (D6.out.call hr hg); have P7 := hid (P6.out.call hg hbl); have Q7 := hid (Q6.out.call hg hbl); clear D6 P6 Q6 hr hg; have q7_0 : w7.cell? ⟨g, 0, none⟩ = some (.string (nw ws k)) := Q7.out.cell 0; have g7_0 := Q7.out.frozen 0; have q7_1 : w7.cell? ⟨g, 1, none⟩ = some (.string (nw ws (k + 1))) := Q7.out.cell 1; have g7_1 := Q7.out.frozen 1; have q7_2 : w7.cell? ⟨g, 2, none⟩ = some (.string ⟨#[]⟩) := Q7.out.cell 2; have g7_2 := Q7.out.frozen 2; have q7_3 : w7.cell? ⟨g, 3, none⟩ = some (.int .i64 0) := Q7.out.cell 3; have g7_3 := Q7.out.frozen 3)
    | (go_at_call 35; refine ((l05Number_any (nw ws k) _)).mono ?_; rintro e w8 ⟨he, hb9⟩; rw [h1] at he; subst he; have D8 := hid (D7.out.below hb9); have P8 := hid (P7.out.below hb9); have Q8 := hid (Q7.out.below hb9); clear D7 P7 Q7 hb9; have q8_0 : w8.cell? ⟨g, 0, none⟩ = some (.string (nw ws k)) := Q8.out.cell 0; have g8_0 := Q8.out.frozen 0; have q8_1 : w8.cell? ⟨g, 1, none⟩ = some (.string (nw ws (k + 1))) := Q8.out.cell 1; have g8_1 := Q8.out.frozen 1; have q8_2 : w8.cell? ⟨g, 2, none⟩ = some (.string ⟨#[]⟩) := Q8.out.cell 2; have g8_2 := Q8.out.frozen 2; have q8_3 : w8.cell? ⟨g, 3, none⟩ = some (.int .i64 0) := Q8.out.cell 3; have g8_3 := Q8.out.frozen 3; have D8 := hid (D8.out.set Q8.out.ge 2 (.string ⟨#[]⟩)); have P8 := hid (P8.out.other (q := g) n2g 2 (.string ⟨#[]⟩)); have Q8 := hid (Q8.out.set 2 (.string ⟨#[]⟩)))
    | (go_at_call 91; refine ((l05Word_any (nw ws k) ⟨#[]⟩ _ (by decide))).mono ?_; rintro e w9 ⟨he, hb9⟩; subst he; have D9 := hid (D8.out.below hb9); have P9 := hid (P8.out.below hb9); have Q9 := hid (Q8.out.below hb9); clear D8 P8 Q8 hb9; have q9_0 : w9.cell? ⟨g, 0, none⟩ = some (.string (nw ws k)) := Q9.out.cell 0; have g9_0 := Q9.out.frozen 0; have q9_1 : w9.cell? ⟨g, 1, none⟩ = some (.string (nw ws (k + 1))) := Q9.out.cell 1; have g9_1 := Q9.out.frozen 1; have q9_2 : w9.cell? ⟨g, 2, none⟩ = some (.string ⟨#[]⟩) := Q9.out.cell 2; have g9_2 := Q9.out.frozen 2; have q9_3 : w9.cell? ⟨g, 3, none⟩ = some (.int .i64 0) := Q9.out.cell 3; have g9_3 := Q9.out.frozen 3)
    | (go_at_call 101; refine ((need_bad _ _ D9.out.rd)).mono ?_; rintro e w10 ⟨rfl, hq⟩; rw [← hq] at D9 P9 Q9; clear hq; have D10 := D9; have P10 := P9; have Q10 := Q9; clear D9 P9 Q9; have q10_0 : w10.cell? ⟨g, 0, none⟩ = some (.string (nw ws k)) := Q10.out.cell 0; have g10_0 := Q10.out.frozen 0; have q10_1 : w10.cell? ⟨g, 1, none⟩ = some (.string (nw ws (k + 1))) := Q10.out.cell 1; have g10_1 := Q10.out.frozen 1; have q10_2 : w10.cell? ⟨g, 2, none⟩ = some (.string ⟨#[]⟩) := Q10.out.cell 2; have g10_2 := Q10.out.frozen 2; have q10_3 : w10.cell? ⟨g, 3, none⟩ = some (.int .i64 0) := Q10.out.cell 3; have g10_3 := Q10.out.frozen 3; have p0 := P10.out.cell 0; have f0 := P10.out.frozen 0; have p1 := P10.out.cell 1; have f1 := P10.out.frozen 1; have p2 := P10.out.cell 2; have f2 := P10.out.frozen 2; have p3 := P10.out.cell 3; have f3 := P10.out.frozen 3))
  refine bodyPost_ret (v := .agg #[.string (nw ws k), .string (nw ws (k + 1)), .string ⟨#[]⟩, .int .i64 0]) (by simp [results, Tryz.results103, go_sem, p0, p1, p2, p3]) rfl ?_
  suffices hF : RdT w _ b sv ws (k + 1) true from ⟨⟨⟨(nw ws k), (nw ws (k + 1)), ⟨#[]⟩, 0⟩, rfl⟩, hF.rd, hF.gr⟩
  exact ((((D10.out.set (g := w.heap.size) (Nat.le_refl _) 0 _).set (g := w.heap.size) (Nat.le_refl _) 1 _).set (g := w.heap.size) (Nat.le_refl _) 2 _).set (g := w.heap.size) (Nat.le_refl _) 3 _)
set_option maxRecDepth 100000 in
set_option maxHeartbeats 4000000 in
theorem scond_e0 {b k : Nat} {sv : Value} {ws : List ByteArray} (w : World) (h : RdS w b sv ws k false) (h0 : isF (nw ws k) = false) :
    Calls Tryz.prog 103 #[.pointer (some ⟨b, 0, none⟩)] w fun e w' => EndSC w b sv ws (rCond3 ws k) e w' := by
  have D0 := hid ((RdT.refl h).alloc (.cells #[.string ⟨#[]⟩, .string ⟨#[]⟩, .string ⟨#[]⟩, .int .i64 0] 67))
  have P0 := hid (NewB.made (w := w) (W := w) [.string ⟨#[]⟩, .string ⟨#[]⟩, .string ⟨#[]⟩, .int .i64 0] 67 (Nat.le_refl _))
  have hbl := lt_heap h.hb
  have hws := h.word
  clear h
  generalize hR' : rCond3 ws k = R
  have hR := hid hR'
  clear hR'
  obtain rfl : R = .error k := by rw [← hR.out]; simp [rCond3, rCond, h0]
  clear hR
  have h1 : numF (nw ws k) = false := by unfold isF at h0; simp at h0; exact h0.1
  go_enter Tryz.func103, Tryz.ntmps103
  go_wp2_with (go_at_call 100; refine (word_any _ D0.out.rd).mono ?_; rintro e w1 ⟨rfl, hr, hg⟩; have D1 := hid ((D0.out.call hr hg).alloc (.cells #[.string (nw ws k), .string ⟨#[]⟩, .string ⟨#[]⟩, .int .i64 0] 67)); have P1 := hid ((P0.out.call hg hbl).alloc (.cells #[.string (nw ws k), .string ⟨#[]⟩, .string ⟨#[]⟩, .int .i64 0] 67)); have Q1 := hid (NewB.made (w := w) (W := w1) [.string (nw ws k), .string ⟨#[]⟩, .string ⟨#[]⟩, .int .i64 0] 67 (D0.out.call hr hg).gr.size); have n2g : w1.heap.size ≠ w.heap.size := (fun e => by have := lt_heap (P0.out.call hg hbl).blk; omega); clear D0 P0 hr hg)
  generalize w1.alloc (.cells #[.string (nw ws k), .string ⟨#[]⟩, .string ⟨#[]⟩, .int .i64 0] 67) = X at *
  generalize w1.heap.size = g at *
  have n3g : ¬ g = w.heap.size := n2g
  have n4g : ¬ w.heap.size = g := fun e => n2g e.symm
  have q1_0 : X.cell? ⟨g, 0, none⟩ = some (.string (nw ws k)) := Q1.out.cell 0
  have g1_0 := Q1.out.frozen 0
  have q1_1 : X.cell? ⟨g, 1, none⟩ = some (.string ⟨#[]⟩) := Q1.out.cell 1
  have g1_1 := Q1.out.frozen 1
  have q1_2 : X.cell? ⟨g, 2, none⟩ = some (.string ⟨#[]⟩) := Q1.out.cell 2
  have g1_2 := Q1.out.frozen 2
  have q1_3 : X.cell? ⟨g, 3, none⟩ = some (.int .i64 0) := Q1.out.cell 3
  have g1_3 := Q1.out.frozen 3
  go_wp2_with (first
    | (go_at_call 41; refine ((l05Field_any (nw ws k) _)).mono ?_; rintro e w2 ⟨he, hb9⟩; rw [h0] at he; subst he; have D2 := hid (D1.out.below hb9); have P2 := hid (P1.out.below hb9); have Q2 := hid (Q1.out.below hb9); clear D1 P1 Q1 hb9; have q2_0 : w2.cell? ⟨g, 0, none⟩ = some (.string (nw ws k)) := Q2.out.cell 0; have g2_0 := Q2.out.frozen 0; have q2_1 : w2.cell? ⟨g, 1, none⟩ = some (.string ⟨#[]⟩) := Q2.out.cell 1; have g2_1 := Q2.out.frozen 1; have q2_2 : w2.cell? ⟨g, 2, none⟩ = some (.string ⟨#[]⟩) := Q2.out.cell 2; have g2_2 := Q2.out.frozen 2; have q2_3 : w2.cell? ⟨g, 3, none⟩ = some (.int .i64 0) := Q2.out.cell 3; have g2_3 := Q2.out.frozen 3)
    | (go_at_call 101; refine ((need_f _ D2.out.rd)).mono ?_; rintro e w3 ⟨rfl, hr, hg⟩; have D3 := hid (D2.out.call hr hg); have P3 := hid (P2.out.call hg hbl); have Q3 := hid (Q2.out.call hg hbl); clear D2 P2 Q2 hr hg; have q3_0 : w3.cell? ⟨g, 0, none⟩ = some (.string (nw ws k)) := Q3.out.cell 0; have g3_0 := Q3.out.frozen 0; have q3_1 : w3.cell? ⟨g, 1, none⟩ = some (.string ⟨#[]⟩) := Q3.out.cell 1; have g3_1 := Q3.out.frozen 1; have q3_2 : w3.cell? ⟨g, 2, none⟩ = some (.string ⟨#[]⟩) := Q3.out.cell 2; have g3_2 := Q3.out.frozen 2; have q3_3 : w3.cell? ⟨g, 3, none⟩ = some (.int .i64 0) := Q3.out.cell 3; have g3_3 := Q3.out.frozen 3)
    | (go_at_call 100; refine ((word_bad _ D3.out.rd)).mono ?_; rintro e w4 ⟨rfl, hr, hg⟩; have D4 := hid (D3.out.call hr hg); have P4 := hid (P3.out.call hg hbl); have Q4 := hid (Q3.out.call hg hbl); clear D3 P3 Q3 hr hg; have q4_0 : w4.cell? ⟨g, 0, none⟩ = some (.string (nw ws k)) := Q4.out.cell 0; have g4_0 := Q4.out.frozen 0; have q4_1 : w4.cell? ⟨g, 1, none⟩ = some (.string ⟨#[]⟩) := Q4.out.cell 1; have g4_1 := Q4.out.frozen 1; have q4_2 : w4.cell? ⟨g, 2, none⟩ = some (.string ⟨#[]⟩) := Q4.out.cell 2; have g4_2 := Q4.out.frozen 2; have q4_3 : w4.cell? ⟨g, 3, none⟩ = some (.int .i64 0) := Q4.out.cell 3; have g4_3 := Q4.out.frozen 3; have D4 := hid (D4.out.set Q4.out.ge 1 (.string ⟨#[]⟩)); have P4 := hid (P4.out.other (q := g) n2g 1 (.string ⟨#[]⟩)); have Q4 := hid (Q4.out.set 1 (.string ⟨#[]⟩)))
    | (go_at_call 90; refine ((l05Op_any (nw ws k) (⟨#[]⟩) _)).mono ?_; rintro e w5 ⟨he, hb9⟩; subst he; have D5 := hid (D4.out.below hb9); have P5 := hid (P4.out.below hb9); have Q5 := hid (Q4.out.below hb9); clear D4 P4 Q4 hb9; have q5_0 : w5.cell? ⟨g, 0, none⟩ = some (.string (nw ws k)) := Q5.out.cell 0; have g5_0 := Q5.out.frozen 0; have q5_1 : w5.cell? ⟨g, 1, none⟩ = some (.string ⟨#[]⟩) := Q5.out.cell 1; have g5_1 := Q5.out.frozen 1; have q5_2 : w5.cell? ⟨g, 2, none⟩ = some (.string ⟨#[]⟩) := Q5.out.cell 2; have g5_2 := Q5.out.frozen 2; have q5_3 : w5.cell? ⟨g, 3, none⟩ = some (.int .i64 0) := Q5.out.cell 3; have g5_3 := Q5.out.frozen 3)
    | (go_at_call 101; refine ((need_bad _ _ D5.out.rd)).mono ?_; rintro e w6 ⟨rfl, hq⟩; rw [← hq] at D5 P5 Q5; clear hq; have D6 := D5; have P6 := P5; have Q6 := Q5; clear D5 P5 Q5; have q6_0 : w6.cell? ⟨g, 0, none⟩ = some (.string (nw ws k)) := Q6.out.cell 0; have g6_0 := Q6.out.frozen 0; have q6_1 : w6.cell? ⟨g, 1, none⟩ = some (.string ⟨#[]⟩) := Q6.out.cell 1; have g6_1 := Q6.out.frozen 1; have q6_2 : w6.cell? ⟨g, 2, none⟩ = some (.string ⟨#[]⟩) := Q6.out.cell 2; have g6_2 := Q6.out.frozen 2; have q6_3 : w6.cell? ⟨g, 3, none⟩ = some (.int .i64 0) := Q6.out.cell 3; have g6_3 := Q6.out.frozen 3)
    | (go_at_call 100; refine ((word_bad _ D6.out.rd)).mono ?_; rintro e w7 ⟨rfl, hr, hg⟩; have D7 := hid (D6.out.call hr hg); have P7 := hid (P6.out.call hg hbl); have Q7 := hid (Q6.out.call hg hbl); clear D6 P6 Q6 hr hg; have q7_0 : w7.cell? ⟨g, 0, none⟩ = some (.string (nw ws k)) := Q7.out.cell 0; have g7_0 := Q7.out.frozen 0; have q7_1 : w7.cell? ⟨g, 1, none⟩ = some (.string ⟨#[]⟩) := Q7.out.cell 1; have g7_1 := Q7.out.frozen 1; have q7_2 : w7.cell? ⟨g, 2, none⟩ = some (.string ⟨#[]⟩) := Q7.out.cell 2; have g7_2 := Q7.out.frozen 2; have q7_3 : w7.cell? ⟨g, 3, none⟩ = some (.int .i64 0) := Q7.out.cell 3; have g7_3 := Q7.out.frozen 3)
    | (go_at_call 35; refine ((l05Number_any (nw ws k) _)).mono ?_; rintro e w8 ⟨he, hb9⟩; rw [h1] at he; subst he; have D8 := hid (D7.out.below hb9); have P8 := hid (P7.out.below hb9); have Q8 := hid (Q7.out.below hb9); clear D7 P7 Q7 hb9; have q8_0 : w8.cell? ⟨g, 0, none⟩ = some (.string (nw ws k)) := Q8.out.cell 0; have g8_0 := Q8.out.frozen 0; have q8_1 : w8.cell? ⟨g, 1, none⟩ = some (.string ⟨#[]⟩) := Q8.out.cell 1; have g8_1 := Q8.out.frozen 1; have q8_2 : w8.cell? ⟨g, 2, none⟩ = some (.string ⟨#[]⟩) := Q8.out.cell 2; have g8_2 := Q8.out.frozen 2; have q8_3 : w8.cell? ⟨g, 3, none⟩ = some (.int .i64 0) := Q8.out.cell 3; have g8_3 := Q8.out.frozen 3; have D8 := hid (D8.out.set Q8.out.ge 2 (.string ⟨#[]⟩)); have P8 := hid (P8.out.other (q := g) n2g 2 (.string ⟨#[]⟩)); have Q8 := hid (Q8.out.set 2 (.string ⟨#[]⟩)))
    | (go_at_call 91; refine ((l05Word_any (nw ws k) ⟨#[]⟩ _ (by decide))).mono ?_; rintro e w9 ⟨he, hb9⟩; subst he; have D9 := hid (D8.out.below hb9); have P9 := hid (P8.out.below hb9); have Q9 := hid (Q8.out.below hb9); clear D8 P8 Q8 hb9; have q9_0 : w9.cell? ⟨g, 0, none⟩ = some (.string (nw ws k)) := Q9.out.cell 0; have g9_0 := Q9.out.frozen 0; have q9_1 : w9.cell? ⟨g, 1, none⟩ = some (.string ⟨#[]⟩) := Q9.out.cell 1; have g9_1 := Q9.out.frozen 1; have q9_2 : w9.cell? ⟨g, 2, none⟩ = some (.string ⟨#[]⟩) := Q9.out.cell 2; have g9_2 := Q9.out.frozen 2; have q9_3 : w9.cell? ⟨g, 3, none⟩ = some (.int .i64 0) := Q9.out.cell 3; have g9_3 := Q9.out.frozen 3)
    | (go_at_call 101; refine ((need_bad _ _ D9.out.rd)).mono ?_; rintro e w10 ⟨rfl, hq⟩; rw [← hq] at D9 P9 Q9; clear hq; have D10 := D9; have P10 := P9; have Q10 := Q9; clear D9 P9 Q9; have q10_0 : w10.cell? ⟨g, 0, none⟩ = some (.string (nw ws k)) := Q10.out.cell 0; have g10_0 := Q10.out.frozen 0; have q10_1 : w10.cell? ⟨g, 1, none⟩ = some (.string ⟨#[]⟩) := Q10.out.cell 1; have g10_1 := Q10.out.frozen 1; have q10_2 : w10.cell? ⟨g, 2, none⟩ = some (.string ⟨#[]⟩) := Q10.out.cell 2; have g10_2 := Q10.out.frozen 2; have q10_3 : w10.cell? ⟨g, 3, none⟩ = some (.int .i64 0) := Q10.out.cell 3; have g10_3 := Q10.out.frozen 3; have p0 := P10.out.cell 0; have f0 := P10.out.frozen 0; have p1 := P10.out.cell 1; have f1 := P10.out.frozen 1; have p2 := P10.out.cell 2; have f2 := P10.out.frozen 2; have p3 := P10.out.cell 3; have f3 := P10.out.frozen 3))
  refine bodyPost_ret (v := .agg #[.string (nw ws k), .string ⟨#[]⟩, .string ⟨#[]⟩, .int .i64 0]) (by simp [results, Tryz.results103, go_sem, p0, p1, p2, p3]) rfl ?_
  suffices hF : RdT w _ b sv ws (k) true from ⟨⟨⟨(nw ws k), ⟨#[]⟩, ⟨#[]⟩, 0⟩, rfl⟩, hF.rd, hF.gr⟩
  exact ((((D10.out.set (g := w.heap.size) (Nat.le_refl _) 0 _).set (g := w.heap.size) (Nat.le_refl _) 1 _).set (g := w.heap.size) (Nat.le_refl _) 2 _).set (g := w.heap.size) (Nat.le_refl _) 3 _)
theorem scond_any {b k : Nat} {sv : Value} {ws : List ByteArray} (w : World) (h : RdS w b sv ws k false) :
    Calls Tryz.prog 103 #[.pointer (some ⟨b, 0, none⟩)] w fun e w' => EndSC w b sv ws (rCond3 ws k) e w' := by
  cases h0 : isF (nw ws k) with
  | false => exact scond_e0 w h h0
  | true =>
    cases h1 : numF (nw ws k) with
    | true =>
      cases h2 : numO (nw ws (k + 1)) with
      | false => exact scond_e1n w h h0 h1 h2
      | true =>
        cases h3 : numOk (nw ws (k + 2)) 1000000 with
        | false => exact scond_e2n w h h0 h1 h2 h3
        | true => exact scond_okn w h h0 h1 h2 h3
    | false =>
      cases h2 : wrdO (nw ws (k + 1)) with
      | false => exact scond_e1w w h h0 h1 h2
      | true =>
        cases h3 : wrdR (nw ws k) (nw ws (k + 2)) with
        | false => exact scond_e2w w h h0 h1 h2 h3
        | true => exact scond_okw w h h0 h1 h2 h3
end Go.Proofs.YtimlnbfalnkmhaaGreatDoor
