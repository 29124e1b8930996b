/-
  Queries: what (*impl.reader).take answers at each function that it is handed, and (*impl.reader).number: contracts over the seat's program.
-/
import Derived.Test.YtimlnbfalnkmhaaGreatDoorZQuR3
namespace Go.Proofs.YtimlnbfalnkmhaaGreatDoor
open Go.RowKit

set_option maxRecDepth 100000 in
theorem takeF_ok {b k : Nat} {sv : Value} {ws : List ByteArray} {a : Addr} (w : World) (h : RdI w b sv ws k a) (hk : k < ws.length) (cf : ∀ W, RdI W b sv ws k a → Calls Tryz.prog 88 #[.string (nw ws k)] W fun e w' => e = .returned (.bool true) ∧ Below W.heap.size W w') :
    Calls Tryz.prog 98 #[.pointer (some ⟨b, 0, none⟩), .func (.func 88) #[] #[]] w fun e w' => e = .returned (.string (nw ws k)) ∧ RdI w' b sv ws (k + 1) a ∧ w.grownBy w' (some b) := by
  have c1 := now_any w h
  have hs := h.word
  have H := hid h
  have hl := h.ln
  clear h
  generalize nw ws k = S at *
  go_enter Tryz.func98, Tryz.ntmps98
  go_wp2_with (first
    | (go_at_call 139; refine c1.mono ?_; rintro e w1 ⟨rfl, hb1⟩; have h1 := hid (H.out.below hb1))
    | (go_at_call 88; refine (cf _ h1.out).mono ?_; rintro e w2 ⟨rfl, hb2⟩; have h2 := hid (h1.out.below hb2); have hbb := hid (hb1.trans (hb2.mono hb1.size)); have hs2 := hid (h2.out.step hk); have hg := hid (grown_trans (grown_below hbb.out) hs2.out.2); have e1 : w2.cell? ⟨b, 1, none⟩ = some (.int .i64 (k : Int)) := (by rw [Lib.cell_of_heap h2.out.hb]; rfl); have f1 : w2.frozen? ⟨b, 1, none⟩ = false := Lib.frozen_of_heap h2.out.hb 1)
    | (go_at_call 96; refine (must_yes b _).mono ?_; rintro e w3 ⟨rfl, rfl⟩)
    | (go_at_call 123; refine (Clone_any S _ (by omega)).mono ?_; rintro e w4 ⟨rfl, hb4⟩))
  go_ret
  exact ⟨rfl, hs2.out.1.below hb4, grown_trans hg.out (grown_below hb4)⟩
set_option maxRecDepth 100000 in
theorem takeF_no {b k : Nat} {sv : Value} {ws : List ByteArray} {a : Addr} (w : World) (h : RdI w b sv ws k a) (cf : ∀ W, RdI W b sv ws k a → Calls Tryz.prog 88 #[.string (nw ws k)] W fun e w' => e = .returned (.bool false) ∧ Below W.heap.size W w') :
    Calls Tryz.prog 98 #[.pointer (some ⟨b, 0, none⟩), .func (.func 88) #[] #[]] w fun e w' => e = .panicked [{ v := errQ a, recovered := false }] ∧ RdI w' b sv ws k a ∧ w.grownBy w' (some b) := by
  have c1 := now_any w h
  have hs := h.word
  have H := hid h
  have hl := h.ln
  clear h
  generalize nw ws k = S at *
  go_enter Tryz.func98, Tryz.ntmps98
  go_wp2_with (first
    | (go_at_call 139; refine c1.mono ?_; rintro e w1 ⟨rfl, hb1⟩; have h1 := hid (H.out.below hb1))
    | (go_at_call 88; refine (cf _ h1.out).mono ?_; rintro e w2 ⟨rfl, hb2⟩; have h2 := hid (h1.out.below hb2); have hbb := hid (hb1.trans (hb2.mono hb1.size)))
    | (go_at_call 96; refine (must_no b _ h2.out.er).mono ?_; rintro e w3 ⟨rfl, rfl⟩))
  exact ⟨rfl, rfl, h2.out, grown_below hbb.out⟩
set_option maxRecDepth 100000 in
theorem takeNF_ok {b k : Nat} {sv : Value} {ws : List ByteArray} {a : Addr} (w : World) (h : RdI w b sv ws k a) (hk : k < ws.length) (cf : ∀ W, RdI W b sv ws k a → Calls Tryz.prog 89 #[.string (nw ws k)] W fun e w' => e = .returned (.bool true) ∧ Below W.heap.size W w') :
    Calls Tryz.prog 98 #[.pointer (some ⟨b, 0, none⟩), .func (.func 89) #[] #[]] w fun e w' => e = .returned (.string (nw ws k)) ∧ RdI w' b sv ws (k + 1) a ∧ w.grownBy w' (some b) := by
  have c1 := now_any w h
  have hs := h.word
  have H := hid h
  have hl := h.ln
  clear h
  generalize nw ws k = S at *
  go_enter Tryz.func98, Tryz.ntmps98
  go_wp2_with (first
    | (go_at_call 139; refine c1.mono ?_; rintro e w1 ⟨rfl, hb1⟩; have h1 := hid (H.out.below hb1))
    | (go_at_call 89; refine (cf _ h1.out).mono ?_; rintro e w2 ⟨rfl, hb2⟩; have h2 := hid (h1.out.below hb2); have hbb := hid (hb1.trans (hb2.mono hb1.size)); have hs2 := hid (h2.out.step hk); have hg := hid (grown_trans (grown_below hbb.out) hs2.out.2); have e1 : w2.cell? ⟨b, 1, none⟩ = some (.int .i64 (k : Int)) := (by rw [Lib.cell_of_heap h2.out.hb]; rfl); have f1 : w2.frozen? ⟨b, 1, none⟩ = false := Lib.frozen_of_heap h2.out.hb 1)
    | (go_at_call 96; refine (must_yes b _).mono ?_; rintro e w3 ⟨rfl, rfl⟩)
    | (go_at_call 123; refine (Clone_any S _ (by omega)).mono ?_; rintro e w4 ⟨rfl, hb4⟩))
  go_ret
  exact ⟨rfl, hs2.out.1.below hb4, grown_trans hg.out (grown_below hb4)⟩
set_option maxRecDepth 100000 in
theorem takeNF_no {b k : Nat} {sv : Value} {ws : List ByteArray} {a : Addr} (w : World) (h : RdI w b sv ws k a) (cf : ∀ W, RdI W b sv ws k a → Calls Tryz.prog 89 #[.string (nw ws k)] W fun e w' => e = .returned (.bool false) ∧ Below W.heap.size W w') :
    Calls Tryz.prog 98 #[.pointer (some ⟨b, 0, none⟩), .func (.func 89) #[] #[]] w fun e w' => e = .panicked [{ v := errQ a, recovered := false }] ∧ RdI w' b sv ws k a ∧ w.grownBy w' (some b) := by
  have c1 := now_any w h
  have hs := h.word
  have H := hid h
  have hl := h.ln
  clear h
  generalize nw ws k = S at *
  go_enter Tryz.func98, Tryz.ntmps98
  go_wp2_with (first
    | (go_at_call 139; refine c1.mono ?_; rintro e w1 ⟨rfl, hb1⟩; have h1 := hid (H.out.below hb1))
    | (go_at_call 89; refine (cf _ h1.out).mono ?_; rintro e w2 ⟨rfl, hb2⟩; have h2 := hid (h1.out.below hb2); have hbb := hid (hb1.trans (hb2.mono hb1.size)))
    | (go_at_call 96; refine (must_no b _ h2.out.er).mono ?_; rintro e w3 ⟨rfl, rfl⟩))
  exact ⟨rfl, rfl, h2.out, grown_below hbb.out⟩
set_option maxRecDepth 100000 in
theorem takeNO_ok {b k : Nat} {sv : Value} {ws : List ByteArray} {a : Addr} (w : World) (h : RdI w b sv ws k a) (hk : k < ws.length) (cf : ∀ W, RdI W b sv ws k a → Calls Tryz.prog 158 #[.string (nw ws k)] W fun e w' => e = .returned (.bool true) ∧ Below W.heap.size W w') :
    Calls Tryz.prog 98 #[.pointer (some ⟨b, 0, none⟩), .func (.func 158) #[] #[]] w fun e w' => e = .returned (.string (nw ws k)) ∧ RdI w' b sv ws (k + 1) a ∧ w.grownBy w' (some b) := by
  have c1 := now_any w h
  have hs := h.word
  have H := hid h
  have hl := h.ln
  clear h
  generalize nw ws k = S at *
  go_enter Tryz.func98, Tryz.ntmps98
  go_wp2_with (first
    | (go_at_call 139; refine c1.mono ?_; rintro e w1 ⟨rfl, hb1⟩; have h1 := hid (H.out.below hb1))
    | (go_at_call 158; refine (cf _ h1.out).mono ?_; rintro e w2 ⟨rfl, hb2⟩; have h2 := hid (h1.out.below hb2); have hbb := hid (hb1.trans (hb2.mono hb1.size)); have hs2 := hid (h2.out.step hk); have hg := hid (grown_trans (grown_below hbb.out) hs2.out.2); have e1 : w2.cell? ⟨b, 1, none⟩ = some (.int .i64 (k : Int)) := (by rw [Lib.cell_of_heap h2.out.hb]; rfl); have f1 : w2.frozen? ⟨b, 1, none⟩ = false := Lib.frozen_of_heap h2.out.hb 1)
    | (go_at_call 96; refine (must_yes b _).mono ?_; rintro e w3 ⟨rfl, rfl⟩)
    | (go_at_call 123; refine (Clone_any S _ (by omega)).mono ?_; rintro e w4 ⟨rfl, hb4⟩))
  go_ret
  exact ⟨rfl, hs2.out.1.below hb4, grown_trans hg.out (grown_below hb4)⟩
set_option maxRecDepth 100000 in
theorem takeNO_no {b k : Nat} {sv : Value} {ws : List ByteArray} {a : Addr} (w : World) (h : RdI w b sv ws k a) (cf : ∀ W, RdI W b sv ws k a → Calls Tryz.prog 158 #[.string (nw ws k)] W fun e w' => e = .returned (.bool false) ∧ Below W.heap.size W w') :
    Calls Tryz.prog 98 #[.pointer (some ⟨b, 0, none⟩), .func (.func 158) #[] #[]] w fun e w' => e = .panicked [{ v := errQ a, recovered := false }] ∧ RdI w' b sv ws k a ∧ w.grownBy w' (some b) := by
  have c1 := now_any w h
  have hs := h.word
  have H := hid h
  have hl := h.ln
  clear h
  generalize nw ws k = S at *
  go_enter Tryz.func98, Tryz.ntmps98
  go_wp2_with (first
    | (go_at_call 139; refine c1.mono ?_; rintro e w1 ⟨rfl, hb1⟩; have h1 := hid (H.out.below hb1))
    | (go_at_call 158; refine (cf _ h1.out).mono ?_; rintro e w2 ⟨rfl, hb2⟩; have h2 := hid (h1.out.below hb2); have hbb := hid (hb1.trans (hb2.mono hb1.size)))
    | (go_at_call 96; refine (must_no b _ h2.out.er).mono ?_; rintro e w3 ⟨rfl, rfl⟩))
  exact ⟨rfl, rfl, h2.out, grown_below hbb.out⟩
set_option maxRecDepth 100000 in
theorem takeWO_ok {b k : Nat} {sv : Value} {ws : List ByteArray} {a : Addr} (w : World) (h : RdI w b sv ws k a) (hk : k < ws.length) (cf : ∀ W, RdI W b sv ws k a → Calls Tryz.prog 159 #[.string (nw ws k)] W fun e w' => e = .returned (.bool true) ∧ Below W.heap.size W w') :
    Calls Tryz.prog 98 #[.pointer (some ⟨b, 0, none⟩), .func (.func 159) #[] #[]] w fun e w' => e = .returned (.string (nw ws k)) ∧ RdI w' b sv ws (k + 1) a ∧ w.grownBy w' (some b) := by
  have c1 := now_any w h
  have hs := h.word
  have H := hid h
  have hl := h.ln
  clear h
  generalize nw ws k = S at *
  go_enter Tryz.func98, Tryz.ntmps98
  go_wp2_with (first
    | (go_at_call 139; refine c1.mono ?_; rintro e w1 ⟨rfl, hb1⟩; have h1 := hid (H.out.below hb1))
    | (go_at_call 159; refine (cf _ h1.out).mono ?_; rintro e w2 ⟨rfl, hb2⟩; have h2 := hid (h1.out.below hb2); have hbb := hid (hb1.trans (hb2.mono hb1.size)); have hs2 := hid (h2.out.step hk); have hg := hid (grown_trans (grown_below hbb.out) hs2.out.2); have e1 : w2.cell? ⟨b, 1, none⟩ = some (.int .i64 (k : Int)) := (by rw [Lib.cell_of_heap h2.out.hb]; rfl); have f1 : w2.frozen? ⟨b, 1, none⟩ = false := Lib.frozen_of_heap h2.out.hb 1)
    | (go_at_call 96; refine (must_yes b _).mono ?_; rintro e w3 ⟨rfl, rfl⟩)
    | (go_at_call 123; refine (Clone_any S _ (by omega)).mono ?_; rintro e w4 ⟨rfl, hb4⟩))
  go_ret
  exact ⟨rfl, hs2.out.1.below hb4, grown_trans hg.out (grown_below hb4)⟩
set_option maxRecDepth 100000 in
theorem takeWO_no {b k : Nat} {sv : Value} {ws : List ByteArray} {a : Addr} (w : World) (h : RdI w b sv ws k a) (cf : ∀ W, RdI W b sv ws k a → Calls Tryz.prog 159 #[.string (nw ws k)] W fun e w' => e = .returned (.bool false) ∧ Below W.heap.size W w') :
    Calls Tryz.prog 98 #[.pointer (some ⟨b, 0, none⟩), .func (.func 159) #[] #[]] w fun e w' => e = .panicked [{ v := errQ a, recovered := false }] ∧ RdI w' b sv ws k a ∧ w.grownBy w' (some b) := by
  have c1 := now_any w h
  have hs := h.word
  have H := hid h
  have hl := h.ln
  clear h
  generalize nw ws k = S at *
  go_enter Tryz.func98, Tryz.ntmps98
  go_wp2_with (first
    | (go_at_call 139; refine c1.mono ?_; rintro e w1 ⟨rfl, hb1⟩; have h1 := hid (H.out.below hb1))
    | (go_at_call 159; refine (cf _ h1.out).mono ?_; rintro e w2 ⟨rfl, hb2⟩; have h2 := hid (h1.out.below hb2); have hbb := hid (hb1.trans (hb2.mono hb1.size)))
    | (go_at_call 96; refine (must_no b _ h2.out.er).mono ?_; rintro e w3 ⟨rfl, rfl⟩))
  exact ⟨rfl, rfl, h2.out, grown_below hbb.out⟩
set_option maxRecDepth 100000 in
theorem takeMA_ok {b k : Nat} {sv : Value} {ws : List ByteArray} {a : Addr} (V : Value) (w : World) (h : RdI w b sv ws k a) (hk : k < ws.length) (cf : ∀ W, RdI W b sv ws k a → Calls Tryz.prog 160 #[V, .string (nw ws k)] W fun e w' => e = .returned (.bool true) ∧ Below W.heap.size W w') :
    Calls Tryz.prog 98 #[.pointer (some ⟨b, 0, none⟩), .func (.func 160) #[V] #[]] w fun e w' => e = .returned (.string (nw ws k)) ∧ RdI w' b sv ws (k + 1) a ∧ w.grownBy w' (some b) := by
  have c1 := now_any w h
  have hs := h.word
  have H := hid h
  have hl := h.ln
  clear h
  generalize nw ws k = S at *
  go_enter Tryz.func98, Tryz.ntmps98
  go_wp2_with (first
    | (go_at_call 139; refine c1.mono ?_; rintro e w1 ⟨rfl, hb1⟩; have h1 := hid (H.out.below hb1))
    | (go_at_call 160; refine (cf _ h1.out).mono ?_; rintro e w2 ⟨rfl, hb2⟩; have h2 := hid (h1.out.below hb2); have hbb := hid (hb1.trans (hb2.mono hb1.size)); have hs2 := hid (h2.out.step hk); have hg := hid (grown_trans (grown_below hbb.out) hs2.out.2); have e1 : w2.cell? ⟨b, 1, none⟩ = some (.int .i64 (k : Int)) := (by rw [Lib.cell_of_heap h2.out.hb]; rfl); have f1 : w2.frozen? ⟨b, 1, none⟩ = false := Lib.frozen_of_heap h2.out.hb 1)
    | (go_at_call 96; refine (must_yes b _).mono ?_; rintro e w3 ⟨rfl, rfl⟩)
    | (go_at_call 123; refine (Clone_any S _ (by omega)).mono ?_; rintro e w4 ⟨rfl, hb4⟩))
  go_ret
  exact ⟨rfl, hs2.out.1.below hb4, grown_trans hg.out (grown_below hb4)⟩
set_option maxRecDepth 100000 in
theorem takeMA_no {b k : Nat} {sv : Value} {ws : List ByteArray} {a : Addr} (V : Value) (w : World) (h : RdI w b sv ws k a) (cf : ∀ W, RdI W b sv ws k a → Calls Tryz.prog 160 #[V, .string (nw ws k)] W fun e w' => e = .returned (.bool false) ∧ Below W.heap.size W w') :
    Calls Tryz.prog 98 #[.pointer (some ⟨b, 0, none⟩), .func (.func 160) #[V] #[]] w fun e w' => e = .panicked [{ v := errQ a, recovered := false }] ∧ RdI w' b sv ws k a ∧ w.grownBy w' (some b) := by
  have c1 := now_any w h
  have hs := h.word
  have H := hid h
  have hl := h.ln
  clear h
  generalize nw ws k = S at *
  go_enter Tryz.func98, Tryz.ntmps98
  go_wp2_with (first
    | (go_at_call 139; refine c1.mono ?_; rintro e w1 ⟨rfl, hb1⟩; have h1 := hid (H.out.below hb1))
    | (go_at_call 160; refine (cf _ h1.out).mono ?_; rintro e w2 ⟨rfl, hb2⟩; have h2 := hid (h1.out.below hb2); have hbb := hid (hb1.trans (hb2.mono hb1.size)))
    | (go_at_call 96; refine (must_no b _ h2.out.er).mono ?_; rintro e w3 ⟨rfl, rfl⟩))
  exact ⟨rfl, rfl, h2.out, grown_below hbb.out⟩
set_option maxRecDepth 100000 in
theorem number_ok {b k : Nat} {sv : Value} {ws : List ByteArray} {a : Addr} (m : Int) (w : World) (h : RdI w b sv ws k a) (hk : k < ws.length) (hm : numOk (nw ws k) m = true) :
    Calls Tryz.prog 99 #[.pointer (some ⟨b, 0, none⟩), .int .i64 m] w fun e w' => e = .returned (.int .i64 (numN (nw ws k))) ∧ RdI w' b sv ws (k + 1) a ∧ w.grownBy w' (some b) := by
  have c1 := now_any w h
  have c2 := fun w => numberIn_any (nw ws k) w
  have H := hid h
  have hl := h.ln
  clear h
  unfold numOk at hm
  generalize nw ws k = S at *
  generalize numN S = n at *
  simp only [Bool.and_eq_true, decide_eq_true_eq] at hm
  obtain ⟨z0, z1⟩ := hm
  go_enter Tryz.func99, Tryz.ntmps99
  go_wp2_with (first
    | (go_at_call 139; refine c1.mono ?_; rintro e w1 ⟨rfl, hb1⟩; have h1 := hid (H.out.below hb1); have hg1 := hid (grown_below (r := some b) hb1); have hs2 := hid (h1.out.step hk); have hg := hid (grown_trans hg1.out hs2.out.2); have e1 : w1.cell? ⟨b, 1, none⟩ = some (.int .i64 (k : Int)) := (by rw [Lib.cell_of_heap h1.out.hb]; rfl); have f1 : w1.frozen? ⟨b, 1, none⟩ = false := Lib.frozen_of_heap h1.out.hb 1)
    | (go_at_call 141; refine (c2 _).mono ?_; rintro e w2 ⟨rfl, rfl⟩)
    | (go_at_call 96; refine (must_yes b _).mono ?_; rintro e w3 ⟨rfl, rfl⟩))
  go_ret
  exact ⟨rfl, hs2.out.1, hg.out⟩
set_option maxRecDepth 100000 in
theorem number_no {b k : Nat} {sv : Value} {ws : List ByteArray} {a : Addr} (m : Int) (w : World) (h : RdI w b sv ws k a) (hm : numOk (nw ws k) m = false) :
    Calls Tryz.prog 99 #[.pointer (some ⟨b, 0, none⟩), .int .i64 m] w fun e w' => e = .panicked [{ v := errQ a, recovered := false }] ∧ RdI w' b sv ws k a ∧ w.grownBy w' (some b) := by
  have c1 := now_any w h
  have c2 := fun w => numberIn_any (nw ws k) w
  have H := hid h
  have hl := h.ln
  clear h
  unfold numOk at hm
  generalize nw ws k = S at *
  generalize numN S = n at *
  by_cases z0 : 0 ≤ n
  · have z2 : decide (n ≤ m) = false := by simpa [z0] using hm
    clear hm
    go_enter Tryz.func99, Tryz.ntmps99
    go_wp2_with (first
      | (go_at_call 139; refine c1.mono ?_; rintro e w1 ⟨rfl, hb1⟩; have h1 := hid (H.out.below hb1); have hg1 := hid (grown_below (r := some b) hb1))
      | (go_at_call 141; refine (c2 _).mono ?_; rintro e w2 ⟨rfl, rfl⟩)
      | (go_at_call 96; refine (must_no b _ h1.out.er).mono ?_; rintro e w3 ⟨rfl, rfl⟩))
    exact ⟨rfl, rfl, h1.out, hg1.out⟩
  · clear hm
    go_enter Tryz.func99, Tryz.ntmps99
    go_wp2_with (first
      | (go_at_call 139; refine c1.mono ?_; rintro e w1 ⟨rfl, hb1⟩; have h1 := hid (H.out.below hb1); have hg1 := hid (grown_below (r := some b) hb1))
      | (go_at_call 141; refine (c2 _).mono ?_; rintro e w2 ⟨rfl, rfl⟩)
      | (go_at_call 96; refine (must_no b _ h1.out.er).mono ?_; rintro e w3 ⟨rfl, rfl⟩))
    exact ⟨rfl, rfl, h1.out, hg1.out⟩
end Go.Proofs.YtimlnbfalnkmhaaGreatDoor
