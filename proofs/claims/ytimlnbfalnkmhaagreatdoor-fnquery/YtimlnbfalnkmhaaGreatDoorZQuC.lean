/-
  Queries: what (*impl.reader).cond answers: a contract over the seat's program.
-/
import Derived.Test.YtimlnbfalnkmhaaGreatDoorZQuT
import Derived.Test.YtimlnbfalnkmhaaGreatDoorZQuK5
import Derived.Test.YtimlnbfalnkmhaaGreatDoorZRdGm2
namespace Go.Proofs.YtimlnbfalnkmhaaGreatDoor
open Go.RowKit

def rCond3 (ws : List ByteArray) (k : Nat) : Except Nat (Cd × Nat) := match rCond ws k with | .ok c => .ok (c, k + 3) | .error e => .error e
def cdV (c : Cd) : Value := .agg #[.string c.fld, .string c.op, .string c.wrd, .int .i64 c.n]
theorem Tryz.asNN (v : Value) (w : World) : (Instr.typeAssert (.iface 184 v) 130 184 true).run Tryz.prog w = .ok (.tuple #[v, .bool true]) w := by kernel_rfl
theorem Tryz.asWN (v : Value) (w : World) : (Instr.typeAssert (.iface 185 v) 130 184 true).run Tryz.prog w = .ok (.tuple #[.agg #[.string ⟨#[]⟩, .string ⟨#[]⟩, .string ⟨#[]⟩, .int .i64 0], .bool false]) w := by kernel_rfl
theorem Tryz.asWW (v : Value) (w : World) : (Instr.typeAssert (.iface 185 v) 130 185 true).run Tryz.prog w = .ok (.tuple #[v, .bool true]) w := by kernel_rfl
set_option maxRecDepth 100000 in
set_option maxHeartbeats 1000000 in
theorem cond_num {b k : Nat} {sv : Value} {ws : List ByteArray} {a : Addr} (w : World) (h : RdI w b sv ws k a) (h0 : isF (nw ws k) = true) (h1 : numF (nw ws k) = true) :
    Calls Tryz.prog 140 #[.pointer (some ⟨b, 0, none⟩)] w fun e w' => EndR w b sv ws a cdV (rCond3 ws k) e w' := by
  have D := hid (((RdG.refl h).alloc (.cells #[.string ⟨#[]⟩, .string ⟨#[]⟩, .string ⟨#[]⟩, .int .i64 0] 67)).alloc (.cells #[.string ⟨#[]⟩, .string ⟨#[]⟩, .string ⟨#[]⟩, .int .i64 0] 67))
  have B2 := hid ((NewB.made (w := w) (W := w) [.string ⟨#[]⟩, .string ⟨#[]⟩, .string ⟨#[]⟩, .int .i64 0] 67 (Nat.le_refl _)).alloc (.cells #[.string ⟨#[]⟩, .string ⟨#[]⟩, .string ⟨#[]⟩, .int .i64 0] 67))
  have B3 := hid (NewB.made (w := w) (W := w.alloc (.cells #[.string ⟨#[]⟩, .string ⟨#[]⟩, .string ⟨#[]⟩, .int .i64 0] 67)) [.string ⟨#[]⟩, .string ⟨#[]⟩, .string ⟨#[]⟩, .int .i64 0] 67 (by simp))
  have hbl := lt_heap h.hb
  clear h
  generalize hR' : rCond3 ws k = R
  have hR := hid hR'
  clear hR'
  have k0 := isF_lt h0
  have tNN := Tryz.asNN
  have cc := fun w => condOf_any (nw ws k) w
  rw [h1] at cc
  go_enter Tryz.func140, Tryz.ntmps140
  go_wp2_with (first
    | (go_at_call 98; refine (takeF_ok _ D.out.rd k0 (fun W _ => (isField_any _ W).mono (fun _ _ h => ⟨by rw [h.1, h0], by rw [h.2]; exact Below.refl _ _⟩))).mono ?_; rintro e w1 ⟨rfl, hr1, hg1⟩; have D1 := hid (D.out.call hr1 hg1); have P2 := hid (B2.out.call hg1 hbl); have P3 := hid (B3.out.call hg1 hbl); clear D B2 B3 hr1 hg1)
    | (go_at_call 113; refine (cc _).mono ?_; rintro e w2 ⟨rfl, hb2⟩; have D2 := hid (D1.out.below hb2); have Q2 := hid (P2.out.below hb2); have Q3 := hid (P3.out.below hb2); clear D1 P2 P3 hb2))
  have D3 := hid (D2.out.alloc (.cells #[.string (nw ws k), .string ⟨#[]⟩, .string ⟨#[]⟩, .int .i64 0] 184))
  have R2 := hid (Q2.out.alloc (.cells #[.string (nw ws k), .string ⟨#[]⟩, .string ⟨#[]⟩, .int .i64 0] 184))
  have R3 := hid (Q3.out.alloc (.cells #[.string (nw ws k), .string ⟨#[]⟩, .string ⟨#[]⟩, .int .i64 0] 184))
  have R4 := hid (NewB.made (w := w) (W := w2) [.string (nw ws k), .string ⟨#[]⟩, .string ⟨#[]⟩, .int .i64 0] 184 D2.out.gr.size)
  have n24 : ¬ w.heap.size = w2.heap.size := by have := lt_heap Q2.out.blk; omega
  have n34 : ¬ w.heap.size + 1 = w2.heap.size := by have := lt_heap Q3.out.blk; simp at this; omega
  have R3 : Hid (NewB w (w2.alloc (.cells #[.string (nw ws k), .string ⟨#[]⟩, .string ⟨#[]⟩, .int .i64 0] 184)) (w.heap.size + 1) [.string ⟨#[]⟩, .string ⟨#[]⟩, .string ⟨#[]⟩, .int .i64 0] 67) := hid (by have := R3.out; simpa using this)
  clear D2 Q2 Q3
  generalize w2.alloc (.cells #[.string (nw ws k), .string ⟨#[]⟩, .string ⟨#[]⟩, .int .i64 0] 184) = W3 at *
  generalize w2.heap.size = g at *
  by_cases h2 : numO (nw ws (k + 1)) = true
  · have k1 := numO_lt h2
    by_cases h3 : numOk (nw ws (k + 2)) 1000000 = true
    · have k2 := numOk_lt h3
      obtain rfl : R = .ok ((⟨nw ws k, nw ws (k + 1), ⟨#[]⟩, numN (nw ws (k + 2))⟩ : Cd), k + 3) := by rw [← hR.out]; simp [rCond3, rCond, h0, h1, h2, h3]
      clear hR
      go_wp2_with (first
        | (go_at_call 98; refine (takeNO_ok _ D3.out.rd k1 (fun W _ => (isNumberOp_any _ W).mono (fun _ _ h => ⟨by rw [h.1, h2], by rw [h.2]; exact Below.refl _ _⟩))).mono ?_; rintro e w4 ⟨rfl, hr4, hg4⟩; have D4 := hid (D3.out.call hr4 hg4); have S2 := hid (R2.out.call hg4 hbl); have S3 := hid (R3.out.call hg4 hbl); have S4 := hid (R4.out.call hg4 hbl); clear D3 R2 R3 R4 hr4 hg4; have f41 := S4.out.frozen 1; have c40 := S4.out.cell 0; have c41 := S4.out.cell 1; have c42 := S4.out.cell 2; have c43 := S4.out.cell 3; have D5 := hid (D4.out.set S4.out.ge 1 (.string (nw ws (k + 1)))); have U2 := hid (S2.out.other (q := g) (fun e => n24 e.symm) 1 (.string (nw ws (k + 1)))); have U3 := hid (S3.out.other (q := g) (fun e => n34 e.symm) 1 (.string (nw ws (k + 1)))); have U4 := hid (S4.out.set 1 (.string (nw ws (k + 1)))); clear D4 S2 S3 S4)
        | (go_at_call 99; refine (number_ok 1000000 _ D5.out.rd k2 h3).mono ?_; rintro e w6 ⟨rfl, hr6, hg6⟩; have D6 := hid (D5.out.call hr6 hg6); have V2 := hid (U2.out.call hg6 hbl); have V3 := hid (U3.out.call hg6 hbl); have V4 := hid (U4.out.call hg6 hbl); clear D5 U2 U3 U4 hr6 hg6; have f40 := V4.out.frozen 0; have f30 := V3.out.frozen 0; have f20 := V2.out.frozen 0; have c40 := V4.out.cell 0; have c30 := V3.out.cell 0; have c20 := V2.out.cell 0; have f41 := V4.out.frozen 1; have f31 := V3.out.frozen 1; have f21 := V2.out.frozen 1; have c41 := V4.out.cell 1; have c31 := V3.out.cell 1; have c21 := V2.out.cell 1; have f42 := V4.out.frozen 2; have f32 := V3.out.frozen 2; have f22 := V2.out.frozen 2; have c42 := V4.out.cell 2; have c32 := V3.out.cell 2; have c22 := V2.out.cell 2; have f43 := V4.out.frozen 3; have f33 := V3.out.frozen 3; have f23 := V2.out.frozen 3; have c43 := V4.out.cell 3; have c33 := V3.out.cell 3; have c23 := V2.out.cell 3))
      refine bodyPost_ret (v := cdV (⟨nw ws k, nw ws (k + 1), ⟨#[]⟩, numN (nw ws (k + 2))⟩ : Cd)) (by simp [results, Tryz.results140, go_sem, cdV, c20, c21, c22, c23]) rfl ?_
      suffices hF : RdG w _ b sv ws (k + 3) a from ⟨rfl, hF.rd, hF.gr⟩
      have n2 : w.heap.size ≤ w.heap.size := Nat.le_refl _
      have n3 : w.heap.size ≤ w.heap.size + 1 := by omega
      exact ((((((((D6.out.set V4.out.ge 3 _).set n3 0 _).set n3 1 _).set n3 2 _).set n3 3 _).set n2 0 _).set n2 1 _).set n2 2 _).set n2 3 _
    · obtain rfl : R = .error (k + 2) := by rw [← hR.out]; simp [rCond3, rCond, h0, h1, h2, h3]
      clear hR
      have h3f : numOk (nw ws (k + 2)) 1000000 = false := by simpa using h3
      go_wp2_with (first
        | (go_at_call 98; refine (takeNO_ok _ D3.out.rd k1 (fun W _ => (isNumberOp_any _ W).mono (fun _ _ h => ⟨by rw [h.1, h2], by rw [h.2]; exact Below.refl _ _⟩))).mono ?_; rintro e w4 ⟨rfl, hr4, hg4⟩; have D4 := hid (D3.out.call hr4 hg4); have S2 := hid (R2.out.call hg4 hbl); have S3 := hid (R3.out.call hg4 hbl); have S4 := hid (R4.out.call hg4 hbl); clear D3 R2 R3 R4 hr4 hg4; have f41 := S4.out.frozen 1; have c40 := S4.out.cell 0; have c41 := S4.out.cell 1; have c42 := S4.out.cell 2; have c43 := S4.out.cell 3; have D5 := hid (D4.out.set S4.out.ge 1 (.string (nw ws (k + 1)))); have U2 := hid (S2.out.other (q := g) (fun e => n24 e.symm) 1 (.string (nw ws (k + 1)))); have U3 := hid (S3.out.other (q := g) (fun e => n34 e.symm) 1 (.string (nw ws (k + 1)))); have U4 := hid (S4.out.set 1 (.string (nw ws (k + 1)))); clear D4 S2 S3 S4)
        | (go_at_call 99; refine (number_no 1000000 _ D5.out.rd h3f).mono ?_; rintro e w6 ⟨rfl, hr6, hg6⟩; have D6 := hid (D5.out.call hr6 hg6); clear D5))
      exact ⟨rfl, rfl, D6.out.rd, D6.out.gr⟩
  · obtain rfl : R = .error (k + 1) := by rw [← hR.out]; simp [rCond3, rCond, h0, h1, h2]
    clear hR
    have h2f : numO (nw ws (k + 1)) = false := by simpa using h2
    go_wp2_with (go_at_call 98; refine (takeNO_no _ D3.out.rd (fun W _ => (isNumberOp_any _ W).mono (fun _ _ h => ⟨by rw [h.1, h2f], by rw [h.2]; exact Below.refl _ _⟩))).mono ?_; rintro e w4 ⟨rfl, hr4, hg4⟩; have D4 := hid (D3.out.call hr4 hg4); clear D3)
    exact ⟨rfl, rfl, D4.out.rd, D4.out.gr⟩


set_option maxRecDepth 100000 in
set_option maxHeartbeats 1000000 in
theorem cond_wrd {b k : Nat} {sv : Value} {ws : List ByteArray} {a : Addr} (w : World) (h : RdI w b sv ws k a) (h0 : isF (nw ws k) = true) (h1 : numF (nw ws k) = false) :
    Calls Tryz.prog 140 #[.pointer (some ⟨b, 0, none⟩)] w fun e w' => EndR w b sv ws a cdV (rCond3 ws k) e w' := by
  have D := hid (((RdG.refl h).alloc (.cells #[.string ⟨#[]⟩, .string ⟨#[]⟩, .string ⟨#[]⟩, .int .i64 0] 67)).alloc (.cells #[.string ⟨#[]⟩, .string ⟨#[]⟩, .string ⟨#[]⟩, .int .i64 0] 67))
  have B2 := hid ((NewB.made (w := w) (W := w) [.string ⟨#[]⟩, .string ⟨#[]⟩, .string ⟨#[]⟩, .int .i64 0] 67 (Nat.le_refl _)).alloc (.cells #[.string ⟨#[]⟩, .string ⟨#[]⟩, .string ⟨#[]⟩, .int .i64 0] 67))
  have B3 := hid (NewB.made (w := w) (W := w.alloc (.cells #[.string ⟨#[]⟩, .string ⟨#[]⟩, .string ⟨#[]⟩, .int .i64 0] 67)) [.string ⟨#[]⟩, .string ⟨#[]⟩, .string ⟨#[]⟩, .int .i64 0] 67 (by simp))
  have hbl := lt_heap h.hb
  clear h
  generalize hR' : rCond3 ws k = R
  have hR := hid hR'
  clear hR'
  have k0 := isF_lt h0
  have tWN := Tryz.asWN
  have tWW := Tryz.asWW
  have cc := fun w => condOf_any (nw ws k) w
  rw [h1] at cc
  go_enter Tryz.func140, Tryz.ntmps140
  go_wp2_with (first
    | (go_at_call 98; refine (takeF_ok _ D.out.rd k0 (fun W _ => (isField_any _ W).mono (fun _ _ h => ⟨by rw [h.1, h0], by rw [h.2]; exact Below.refl _ _⟩))).mono ?_; rintro e w1 ⟨rfl, hr1, hg1⟩; have D1 := hid (D.out.call hr1 hg1); have P2 := hid (B2.out.call hg1 hbl); have P3 := hid (B3.out.call hg1 hbl); clear D B2 B3 hr1 hg1)
    | (go_at_call 113; refine (cc _).mono ?_; rintro e w2 ⟨rfl, hb2⟩; have D2 := hid (D1.out.below hb2); have Q2 := hid (P2.out.below hb2); have Q3 := hid (P3.out.below hb2); clear D1 P2 P3 hb2))
  have D3 := hid (D2.out.alloc (.cells #[.string (nw ws k), .string ⟨#[]⟩, .string ⟨#[]⟩, .int .i64 0] 185))
  have R2 := hid (Q2.out.alloc (.cells #[.string (nw ws k), .string ⟨#[]⟩, .string ⟨#[]⟩, .int .i64 0] 185))
  have R3 := hid (Q3.out.alloc (.cells #[.string (nw ws k), .string ⟨#[]⟩, .string ⟨#[]⟩, .int .i64 0] 185))
  have R4 := hid (NewB.made (w := w) (W := w2) [.string (nw ws k), .string ⟨#[]⟩, .string ⟨#[]⟩, .int .i64 0] 185 D2.out.gr.size)
  have n24 : ¬ w.heap.size = w2.heap.size := by have := lt_heap Q2.out.blk; omega
  have n34 : ¬ w.heap.size + 1 = w2.heap.size := by have := lt_heap Q3.out.blk; simp at this; omega
  have R3 : Hid (NewB w (w2.alloc (.cells #[.string (nw ws k), .string ⟨#[]⟩, .string ⟨#[]⟩, .int .i64 0] 185)) (w.heap.size + 1) [.string ⟨#[]⟩, .string ⟨#[]⟩, .string ⟨#[]⟩, .int .i64 0] 67) := hid (by have := R3.out; simpa using this)
  clear D2 Q2 Q3
  generalize w2.alloc (.cells #[.string (nw ws k), .string ⟨#[]⟩, .string ⟨#[]⟩, .int .i64 0] 185) = W3 at *
  generalize w2.heap.size = g at *
  by_cases h2 : wrdO (nw ws (k + 1)) = true
  · have k1 := wrdO_lt h2
    by_cases h3 : wrdR (nw ws k) (nw ws (k + 2)) = true
    · have k2 := wrdR_lt h3
      obtain rfl : R = .ok ((⟨nw ws k, nw ws (k + 1), nw ws (k + 2), 0⟩ : Cd), k + 3) := by rw [← hR.out]; simp [rCond3, rCond, h0, h1, h2, h3]
      clear hR
      go_wp2_with (first
        | (go_at_call 98; refine (takeWO_ok _ D3.out.rd k1 (fun W _ => (isWordOp_any _ W).mono (fun _ _ h => ⟨by rw [h.1, h2], by rw [h.2]; exact Below.refl _ _⟩))).mono ?_; rintro e w4 ⟨rfl, hr4, hg4⟩; have D4 := hid (D3.out.call hr4 hg4); have S2 := hid (R2.out.call hg4 hbl); have S3 := hid (R3.out.call hg4 hbl); have S4 := hid (R4.out.call hg4 hbl); clear D3 R2 R3 R4 hr4 hg4; have f41 := S4.out.frozen 1; have c40 := S4.out.cell 0; have c41 := S4.out.cell 1; have c42 := S4.out.cell 2; have c43 := S4.out.cell 3; have D5 := hid (D4.out.set S4.out.ge 1 (.string (nw ws (k + 1)))); have U2 := hid (S2.out.other (q := g) (fun e => n24 e.symm) 1 (.string (nw ws (k + 1)))); have U3 := hid (S3.out.other (q := g) (fun e => n34 e.symm) 1 (.string (nw ws (k + 1)))); have U4 := hid (S4.out.set 1 (.string (nw ws (k + 1)))); clear D4 S2 S3 S4)
        | (go_at_call 98; refine (takeMA_ok (.agg #[.string (nw ws k), .string (nw ws (k + 1)), .string ⟨#[]⟩, .int .i64 0]) _ D5.out.rd k2 (fun W hW => (mayAsk_any _ _ _ _ _ W hW.kn (by have := hW.word; unfold maxLen; omega)).mono (fun _ _ h => ⟨by rw [h.1, h3], h.2⟩))).mono ?_; rintro e w6 ⟨rfl, hr6, hg6⟩; have D6 := hid (D5.out.call hr6 hg6); have V2 := hid (U2.out.call hg6 hbl); have V3 := hid (U3.out.call hg6 hbl); have V4 := hid (U4.out.call hg6 hbl); clear D5 U2 U3 U4 hr6 hg6; have f40 := V4.out.frozen 0; have f30 := V3.out.frozen 0; have f20 := V2.out.frozen 0; have c40 := V4.out.cell 0; have c30 := V3.out.cell 0; have c20 := V2.out.cell 0; have f41 := V4.out.frozen 1; have f31 := V3.out.frozen 1; have f21 := V2.out.frozen 1; have c41 := V4.out.cell 1; have c31 := V3.out.cell 1; have c21 := V2.out.cell 1; have f42 := V4.out.frozen 2; have f32 := V3.out.frozen 2; have f22 := V2.out.frozen 2; have c42 := V4.out.cell 2; have c32 := V3.out.cell 2; have c22 := V2.out.cell 2; have f43 := V4.out.frozen 3; have f33 := V3.out.frozen 3; have f23 := V2.out.frozen 3; have c43 := V4.out.cell 3; have c33 := V3.out.cell 3; have c23 := V2.out.cell 3))
      refine bodyPost_ret (v := cdV (⟨nw ws k, nw ws (k + 1), nw ws (k + 2), 0⟩ : Cd)) (by simp [results, Tryz.results140, go_sem, cdV, c20, c21, c22, c23]) rfl ?_
      suffices hF : RdG w _ b sv ws (k + 3) a from ⟨rfl, hF.rd, hF.gr⟩
      have n2 : w.heap.size ≤ w.heap.size := Nat.le_refl _
      have n3 : w.heap.size ≤ w.heap.size + 1 := by omega
      exact ((((((((D6.out.set V4.out.ge 2 _).set n3 0 _).set n3 1 _).set n3 2 _).set n3 3 _).set n2 0 _).set n2 1 _).set n2 2 _).set n2 3 _
    · obtain rfl : R = .error (k + 2) := by rw [← hR.out]; simp [rCond3, rCond, h0, h1, h2, h3]
      clear hR
      have h3f : wrdR (nw ws k) (nw ws (k + 2)) = false := by simpa using h3
      go_wp2_with (first
        | (go_at_call 98; refine (takeWO_ok _ D3.out.rd k1 (fun W _ => (isWordOp_any _ W).mono (fun _ _ h => ⟨by rw [h.1, h2], by rw [h.2]; exact Below.refl _ _⟩))).mono ?_; rintro e w4 ⟨rfl, hr4, hg4⟩; have D4 := hid (D3.out.call hr4 hg4); have S2 := hid (R2.out.call hg4 hbl); have S3 := hid (R3.out.call hg4 hbl); have S4 := hid (R4.out.call hg4 hbl); clear D3 R2 R3 R4 hr4 hg4; have f41 := S4.out.frozen 1; have c40 := S4.out.cell 0; have c41 := S4.out.cell 1; have c42 := S4.out.cell 2; have c43 := S4.out.cell 3; have D5 := hid (D4.out.set S4.out.ge 1 (.string (nw ws (k + 1)))); have U2 := hid (S2.out.other (q := g) (fun e => n24 e.symm) 1 (.string (nw ws (k + 1)))); have U3 := hid (S3.out.other (q := g) (fun e => n34 e.symm) 1 (.string (nw ws (k + 1)))); have U4 := hid (S4.out.set 1 (.string (nw ws (k + 1)))); clear D4 S2 S3 S4)
        | (go_at_call 98; refine (takeMA_no (.agg #[.string (nw ws k), .string (nw ws (k + 1)), .string ⟨#[]⟩, .int .i64 0]) _ D5.out.rd  (fun W hW => (mayAsk_any _ _ _ _ _ W hW.kn (by have := hW.word; unfold maxLen; omega)).mono (fun _ _ h => ⟨by rw [h.1, h3f], h.2⟩))).mono ?_; rintro e w6 ⟨rfl, hr6, hg6⟩; have D6 := hid (D5.out.call hr6 hg6); clear D5))
      exact ⟨rfl, rfl, D6.out.rd, D6.out.gr⟩
  · obtain rfl : R = .error (k + 1) := by rw [← hR.out]; simp [rCond3, rCond, h0, h1, h2]
    clear hR
    have h2f : wrdO (nw ws (k + 1)) = false := by simpa using h2
    go_wp2_with (go_at_call 98; refine (takeWO_no _ D3.out.rd (fun W _ => (isWordOp_any _ W).mono (fun _ _ h => ⟨by rw [h.1, h2f], by rw [h.2]; exact Below.refl _ _⟩))).mono ?_; rintro e w4 ⟨rfl, hr4, hg4⟩; have D4 := hid (D3.out.call hr4 hg4); clear D3)
    exact ⟨rfl, rfl, D4.out.rd, D4.out.gr⟩

set_option maxRecDepth 100000 in
theorem cond_none {b k : Nat} {sv : Value} {ws : List ByteArray} {a : Addr} (w : World) (h : RdI w b sv ws k a) (h0 : isF (nw ws k) = false) :
    Calls Tryz.prog 140 #[.pointer (some ⟨b, 0, none⟩)] w fun e w' => EndR w b sv ws a cdV (rCond3 ws k) e w' := by
  have D := hid (((RdG.refl h).alloc (.cells #[.string ⟨#[]⟩, .string ⟨#[]⟩, .string ⟨#[]⟩, .int .i64 0] 67)).alloc (.cells #[.string ⟨#[]⟩, .string ⟨#[]⟩, .string ⟨#[]⟩, .int .i64 0] 67))
  have B2 := hid ((NewB.made (w := w) (W := w) [.string ⟨#[]⟩, .string ⟨#[]⟩, .string ⟨#[]⟩, .int .i64 0] 67 (Nat.le_refl _)).alloc (.cells #[.string ⟨#[]⟩, .string ⟨#[]⟩, .string ⟨#[]⟩, .int .i64 0] 67))
  have B3 := hid (NewB.made (w := w) (W := w.alloc (.cells #[.string ⟨#[]⟩, .string ⟨#[]⟩, .string ⟨#[]⟩, .int .i64 0] 67)) [.string ⟨#[]⟩, .string ⟨#[]⟩, .string ⟨#[]⟩, .int .i64 0] 67 (by simp))
  have hbl := lt_heap h.hb
  clear h
  generalize hR' : rCond3 ws k = R
  have hR := hid hR'
  clear hR'
  obtain rfl : R = .error k := by rw [← hR.out]; simp [rCond3, rCond, h0]
  clear hR
  go_enter Tryz.func140, Tryz.ntmps140
  go_wp2_with (go_at_call 98; refine (takeF_no _ D.out.rd (fun W _ => (isField_any _ W).mono (fun _ _ h => ⟨by rw [h.1, h0], by rw [h.2]; exact Below.refl _ _⟩))).mono ?_; rintro e w1 ⟨rfl, hr1, hg1⟩; have D1 := hid (D.out.call hr1 hg1); clear D)
  exact ⟨rfl, rfl, D1.out.rd, D1.out.gr⟩
theorem cond_any {b k : Nat} {sv : Value} {ws : List ByteArray} {a : Addr} (w : World) (h : RdI w b sv ws k a) :
    Calls Tryz.prog 140 #[.pointer (some ⟨b, 0, none⟩)] w fun e w' => EndR w b sv ws a cdV (rCond3 ws k) e w' := by
  by_cases h0 : isF (nw ws k) = true
  · by_cases h1 : numF (nw ws k) = true
    · exact cond_num w h h0 h1
    · exact cond_wrd w h h0 (by simpa using h1)
  · exact cond_none w h (by simpa using h0)
end Go.Proofs.YtimlnbfalnkmhaaGreatDoor
