/-
  Texts put together: QpF, EvX, EvT, SqR.
-/
import Derived.Test.YtimlnbfalnkmhaaGreatDoorZQuI3
import Derived.Test.YtimlnbfalnkmhaaGreatDoorZNm
import Derived.Test.YtimlnbfalnkmhaaGreatDoorZQrM
import Derived.Test.YtimlnbfalnkmhaaGreatDoorZCdRow5
import Derived.Deep.CutBlock
/-
  Queries: what spec.l05Numbers, l05Words, l02Kinds, l05Number, l05Field, l05Op, l05Word answer: contracts over the seat's program.
-/
namespace Go.Proofs.YtimlnbfalnkmhaaGreatDoor
open Go.RowKit

theorem row_sl (w : World) (ss : List ByteArray) (T : TypeId) (h : 0 < ss.length) : StrSl (w.alloc (.cells (ss.map Value.string).toArray T)) (.slice (some ⟨w.heap.size, 0, none⟩) ss.length ss.length) ss := by
  refine .inr ⟨w.heap.size, 0, ss.length, rfl, ⟨h, Nat.le_refl _⟩, by simp, fun i hi => ?_⟩
  rw [Lib.cell_of_heap (heap_alloc_new _ _)]
  simp [hi]
theorem at_nums (f : ByteArray) : decide (0 ≤ atI nums f) = numF f := by
  rw [Bool.eq_iff_iff, decide_eq_true_iff, atI_ge]
  simp [nums, numF, or_assoc]
theorem at_wrds (f : ByteArray) : decide (0 ≤ atI wrds f) = wrdF f := by
  rw [Bool.eq_iff_iff, decide_eq_true_iff, atI_ge]
  simp [wrds, wrdF, or_assoc]
theorem at_nops (f : ByteArray) : decide (0 ≤ atI nops f) = numO f := by
  rw [Bool.eq_iff_iff, decide_eq_true_iff, atI_ge]
  simp [nops, numO, or_assoc]
theorem at_kinds (f : ByteArray) : decide (0 ≤ atI kinds f) = isK f := by
  rw [Bool.eq_iff_iff, decide_eq_true_iff, atI_ge]
  simp [kinds, isK, or_assoc]
theorem isK_nr {t : ByteArray} (h : isK t = true) : nrB t = true := by
  have h1 : ∀ s ∈ kinds, nrB s = true := by decide
  refine h1 t ?_
  simpa [kinds, isK, or_assoc] using h
theorem l05Numbers_any (w : World) : Calls Tryz.prog 87 #[] w fun e w' => ∃ v, e = .returned v ∧ StrSl w' v nums ∧ Below w.heap.size w w' := by
  go_enter Tryz.func87, Tryz.ntmps87
  go_wp2
  go_ret
  exact ⟨_, rfl, row_sl w nums _ (by decide), (Below.refl _ _).alloc (Nat.le_refl _) _⟩
theorem l05Words_any (w : World) : Calls Tryz.prog 92 #[] w fun e w' => ∃ v, e = .returned v ∧ StrSl w' v wrds ∧ Below w.heap.size w w' := by
  go_enter Tryz.func92, Tryz.ntmps92
  go_wp2
  go_ret
  exact ⟨_, rfl, row_sl w wrds _ (by decide), (Below.refl _ _).alloc (Nat.le_refl _) _⟩
theorem l02Kinds_any (w : World) : Calls Tryz.prog 138 #[] w fun e w' => ∃ v, e = .returned v ∧ StrSl w' v kinds ∧ Below w.heap.size w w' := by
  go_enter Tryz.func138, Tryz.ntmps138
  go_wp2
  go_ret
  exact ⟨_, rfl, row_sl w kinds _ (by decide), (Below.refl _ _).alloc (Nat.le_refl _) _⟩
theorem l05Number_any (f : ByteArray) (w : World) : Calls Tryz.prog 35 #[.string f] w fun e w' => e = .returned (.bool (numF f)) ∧ Below w.heap.size w w' := by
  have c1 := l05Numbers_any w
  have hz := at_nums f
  generalize numF f = B at *
  have c2 := fun v w (h : Hid (StrSl w v nums)) => l03At_any v nums f w h.out (by decide)
  generalize atI nums f = n at *
  go_enter Tryz.func35, Tryz.ntmps35
  go_wp2_with (first
    | (go_at_call 87; refine c1.mono ?_; rintro e w1 ⟨v, rfl, hv, hb⟩; have HV := hid hv; clear hv c1)
    | (go_at_call 86; refine (c2 _ _ HV).mono ?_; rintro e w2 ⟨rfl, rfl⟩))
  go_ret
  exact ⟨rfl, hb⟩
theorem l05Field_any (f : ByteArray) (w : World) : Calls Tryz.prog 41 #[.string f] w fun e w' => e = .returned (.bool (isF f)) ∧ Below w.heap.size w w' := by
  have c0 := l05Number_any f w
  have c1 := fun w => l05Words_any w
  have hz := at_wrds f
  unfold isF
  generalize numF f = B0 at *
  generalize wrdF f = B at *
  have c2 := fun v w (h : Hid (StrSl w v wrds)) => l03At_any v wrds f w h.out (by decide)
  generalize atI wrds f = n at *
  cases B0 with
  | true =>
    go_enter Tryz.func41, Tryz.ntmps41
    go_wp2_with (first
      | (go_at_call 35; refine c0.mono ?_; rintro e w0 ⟨rfl, hb0⟩))
    go_ret
    exact ⟨rfl, hb0⟩
  | false =>
    go_enter Tryz.func41, Tryz.ntmps41
    go_wp2_with (first
      | (go_at_call 35; refine c0.mono ?_; rintro e w0 ⟨rfl, hb0⟩; clear c0)
      | (go_at_call 92; refine (c1 _).mono ?_; rintro e w1 ⟨v, rfl, hv, hb⟩; have HV := hid hv; clear hv c1)
      | (go_at_call 86; refine (c2 _ _ HV).mono ?_; rintro e w2 ⟨rfl, rfl⟩))
    go_ret
    exact ⟨rfl, hb0.trans (hb.mono hb0.size)⟩
/-- May it be held so against that field? -/
def opR (f o : ByteArray) : Bool := if numF f then numO o else wrdO o
theorem l05Op_any (f o : ByteArray) (w : World) : Calls Tryz.prog 90 #[.string f, .string o] w fun e w' => e = .returned (.bool (opR f o)) ∧ Below w.heap.size w w' := by
  have c0 := l05Number_any f w
  unfold opR
  generalize numF f = B0 at *
  cases B0 with
  | true =>
    simp only [if_true]
    have hz := at_nops o
    generalize numO o = B at *
    have c2 := fun w => l03At_any _ nops o _ (row_sl w nops 9 (by decide)) (by decide)
    generalize atI nops o = n at *
    go_enter Tryz.func90, Tryz.ntmps90
    go_wp2_with (first
      | (go_at_call 35; refine c0.mono ?_; rintro e w0 ⟨rfl, hb0⟩; clear c0)
      | (go_at_call 86; refine (c2 w0).mono ?_; rintro e w2 ⟨rfl, rfl⟩; clear c2))
    go_ret
    exact ⟨rfl, hb0.alloc hb0.size _⟩
  | false =>
    simp only [Bool.false_eq_true, if_false]
    have e0 : (o.toList == [61]) = decide (o = oEq) := lit_b o _ _ rfl
    have e1 : (o.toList == [33, 61]) = decide (o = oNe) := lit_b o _ _ rfl
    unfold wrdO
    generalize decide (o = oEq) = b0 at *
    generalize decide (o = oNe) = b1 at *
    cases b0 with
    | true =>
      clear e1
      go_enter Tryz.func90, Tryz.ntmps90
      go_wp2_with (first
        | (go_at_call 35; refine c0.mono ?_; rintro e w0 ⟨rfl, hb0⟩; clear c0))
      go_ret
      exact ⟨by simp, hb0⟩
    | false =>
      cases b1
      all_goals (
        go_enter Tryz.func90, Tryz.ntmps90
        go_wp2_with (first
          | (go_at_call 35; refine c0.mono ?_; rintro e w0 ⟨rfl, hb0⟩; clear c0))
        go_ret
        exact ⟨by simp, hb0⟩)
theorem l05Word_any (f t : ByteArray) (w : World) (hs : t.size ≤ maxLen) : Calls Tryz.prog 91 #[.string f, .string t] w fun e w' => e = .returned (.bool (wrdR f t)) ∧ Below w.heap.size w w' := by
  have c0 := specNameRight_any t w hs
  have c1 := fun w => l02Kinds_any w
  have hz := at_kinds t
  have e0 : (f.toList == [107, 105, 110, 100]) = decide (f = qKind) := lit_b f _ _ rfl
  have hn := @isK_nr t
  have c2 := fun v w (h : Hid (StrSl w v kinds)) => l03At_any v kinds t w h.out (by decide)
  unfold wrdR
  clear hs
  generalize atI kinds t = n at *
  generalize isK t = K at *
  generalize nrB t = N at *
  by_cases hf : f = qKind
  · rw [decide_eq_true hf] at e0
    rw [if_pos hf]
    clear hf
    cases N with
    | false =>
      have : K = false := by cases K; rfl; exact absurd (hn rfl) (by decide)
      subst this
      go_enter Tryz.func91, Tryz.ntmps91
      go_wp2_with (first
        | (go_at_call 69; refine c0.mono ?_; rintro e w0 ⟨rfl, rfl⟩; clear c0))
      go_ret
      exact ⟨rfl, Below.refl _ _⟩
    | true =>
      clear hn
      go_enter Tryz.func91, Tryz.ntmps91
      go_wp2_with (first
        | (go_at_call 69; refine c0.mono ?_; rintro e w0 ⟨rfl, rfl⟩; clear c0)
        | (go_at_call 138; refine (c1 _).mono ?_; rintro e w1 ⟨v, rfl, hv, hb⟩; have HV := hid hv; clear hv c1)
        | (go_at_call 86; refine (c2 _ _ HV).mono ?_; rintro e w2 ⟨rfl, rfl⟩))
      go_ret
      exact ⟨rfl, hb⟩
  · rw [decide_eq_false hf] at e0
    rw [if_neg hf]
    clear hf hn hz c2 c1
    cases N
    all_goals (
      go_enter Tryz.func91, Tryz.ntmps91
      go_wp2_with (first
        | (go_at_call 69; refine c0.mono ?_; rintro e w0 ⟨rfl, rfl⟩; clear c0))
      go_ret
      exact ⟨rfl, Below.refl _ _⟩)
end Go.Proofs.YtimlnbfalnkmhaaGreatDoor

/-
  An event, field by field, and what it is for one to be right. Of no function.
-/
namespace Go.Proofs.YtimlnbfalnkmhaaGreatDoor
open Go.RowKit

def numB (n : Int) : Bool := decide (1 ≤ n) && decide (n ≤ 1000000)
def timB (n : Int) : Bool := decide (0 ≤ n) && decide (n ≤ 1000000)
/-- An event, field by field. -/
structure Ev where
  seq : Int
  time : Int
  run : Int
  kind : Int
  step : ByteArray
  val : ByteArray
def kndB (k : Int) (s v : ByteArray) : Bool :=
  if k = 1 ∨ k = 6 then decide (s = ByteArray.empty) && decide (v = ByteArray.empty)
  else if k = 2 ∨ k = 3 ∨ k = 5 then nrB s && decide (v = ByteArray.empty)
  else if k = 4 then nrB s && decide (v.size ≤ 40) else false
def evB (e : Ev) : Bool := numB e.seq && (numB e.run && (timB e.time && kndB e.kind e.step e.val))
end Go.Proofs.YtimlnbfalnkmhaaGreatDoor

/-
  What impl.isTime, spec.l02Is and spec.l02Time answer: contracts over the seat's program.
-/
namespace Go.Proofs.YtimlnbfalnkmhaaGreatDoor
open Go.RowKit

theorem rng_yes {a b n : Int} (h1 : a ≤ n) (h2 : n ≤ b) : (decide (a ≤ n) && decide (n ≤ b)) = true := by simp [h1, h2]
theorem rng_no {a b n : Int} (h : ¬ (a ≤ n ∧ n ≤ b)) : (decide (a ≤ n) && decide (n ≤ b)) = false := by
  rw [Bool.and_eq_false_iff]; simp; omega
theorem rng_walk {P : Program} {f : FuncId} {args : Array Value} {a b n : Int}
    (c1 : a ≤ n → n ≤ b → ∀ w, Calls P f args w fun e w' => e = .returned (.bool true) ∧ w' = w) (c2 : a ≤ n → decide (n ≤ b) = false → ∀ w, Calls P f args w fun e w' => e = .returned (.bool false) ∧ w' = w)
    (c3 : n < a → ∀ w, Calls P f args w fun e w' => e = .returned (.bool false) ∧ w' = w) (w : World) : Calls P f args w fun e w' => e = .returned (.bool (decide (a ≤ n) && decide (n ≤ b))) ∧ w' = w := by
  by_cases h1 : a ≤ n
  · by_cases h2 : n ≤ b
    · rw [rng_yes h1 h2]; exact c1 h1 h2 w
    · rw [rng_no (fun h => h2 h.2)]; exact c2 h1 (by simpa using h2) w
  · rw [rng_no (fun h => h1 h.1)]; exact c3 (by omega) w

theorem isTime_any (n : Int) (w : World) :
    Calls Tryz.prog 165 #[.int .i64 n] w fun e w' => e = .returned (.bool (timB n)) ∧ w' = w := by
  refine rng_walk (fun h1 h2 w => ?_) (fun h1 h2 w => ?_) (fun h1 w => ?_) w
  all_goals
    go_enter Tryz.func165, Tryz.ntmps165
    go_wp2
    go_ret
    exact ⟨rfl, rfl⟩
theorem l02Is_any (n a b : Int) (w : World) :
    Calls Tryz.prog 42 #[.int .i64 n, .int .i64 a, .int .i64 b] w fun e w' => e = .returned (.bool (decide (a ≤ n) && decide (n ≤ b))) ∧ w' = w := by
  refine rng_walk (fun h1 h2 w => ?_) (fun h1 h2 w => ?_) (fun h1 w => ?_) w
  all_goals
    go_enter Tryz.func42, Tryz.ntmps42
    go_wp2
    go_ret
    exact ⟨rfl, rfl⟩
theorem l02Time_any (n : Int) (w : World) :
    Calls Tryz.prog 68 #[.int .i64 n] w fun e w' => e = .returned (.bool (timB n)) ∧ w' = w := by
  have c1 := fun w => l02Is_any n 0 1000000 w
  change ∀ w, Calls Tryz.prog 42 _ w fun e w' => e = .returned (.bool (timB n)) ∧ w' = w at c1
  generalize timB n = B at *
  go_enter Tryz.func68, Tryz.ntmps68
  go_wp2_with (go_at_call 42; refine (c1 _).mono ?_; rintro e w1 ⟨rfl, rfl⟩)
  go_ret
  exact ⟨rfl, rfl⟩
end Go.Proofs.YtimlnbfalnkmhaaGreatDoor

/-
  What spec.l05Cond and spec.QueryRight answer: contracts over the seat's program.
-/
namespace Go.Proofs.YtimlnbfalnkmhaaGreatDoor
open Go.RowKit
set_option linter.unusedVariables false

theorem CdSl.rowQ {w : World} {a : Option Addr} {n c : Nat} {cs : List Cd} (h : CdSl w (.slice a n c) cs) (h0 : 0 < cs.length) : ∃ g o, a = some ⟨g, o, none⟩ ∧ CdsAt w g o cs := by
  rcases h with ⟨_, _, _, rfl⟩ | ⟨g, o, _, hv, _, h⟩
  · simp at h0
  · injection hv with h1 _ _; exact ⟨g, o, h1, h⟩
theorem CdSl.stayQ {w w' : World} {v : Value} {cs : List Cd} (h : CdSl w v cs) (hb : Below w.heap.size w w') : CdSl w' v cs := by
  rcases h with h | ⟨g, o, c, hv, hn, h⟩
  · exact .inl h
  · exact .inr ⟨g, o, c, hv, hn, h.stay hb (Nat.le_refl _)⟩
set_option maxRecDepth 100000 in
set_option maxHeartbeats 2000000 in
theorem l05Cond_any (f o t : ByteArray) (n : Int) (w : World) (hs : t.size ≤ maxLen) :
    Calls Tryz.prog 40 #[.agg #[.string f, .string o, .string t, .int .i64 n]] w fun e w' => e = .returned (.bool (cdB ⟨f, o, t, n⟩)) ∧ Below w.heap.size w w' := by
  have c1 := fun w => l05Field_any f w
  have c2 := fun w => l05Op_any f o w
  have c3 := fun w => l05Number_any f w
  have c4 := fun w => l02Is_any n 0 1000000 w
  have c5 := fun w => l05Word_any f t w hs
  have e1 : (t.toList == []) = decide (t = noW) := lit_b t [] noW rfl
  have e2 : (n == 0) = decide (n = 0) := rfl
  unfold cdB
  unfold isF at c1
  unfold opR at c2
  simp only
  generalize numF f = a at *
  generalize wrdF f = b at *
  generalize numO o = no at *
  generalize wrdO o = wo at *
  generalize wrdR f t = wr at *
  generalize decide (t = noW) = d1 at *
  generalize (decide (0 ≤ n) && decide (n ≤ 1000000)) = d2 at *
  generalize decide (n = 0) = d3 at *
  clear hs
  have hb0 : Below w.heap.size w (w.alloc (.cells #[.string f, .string o, .string t, .int .i64 n] 67)) := (Below.refl _ _).alloc (Nat.le_refl _) _
  have HB0 := hid hb0
  have HA := hid (heap_alloc_new w (.cells #[.string f, .string o, .string t, .int .i64 n] 67))
  clear hb0
  have K := hid (show ∀ X, Below (w.alloc (.cells #[.string f, .string o, .string t, .int .i64 n] 67)).heap.size (w.alloc (.cells #[.string f, .string o, .string t, .int .i64 n] 67)) X → X.cell? ⟨w.heap.size, 0, none⟩ = some (.string f) ∧ X.cell? ⟨w.heap.size, 1, none⟩ = some (.string o) ∧ X.cell? ⟨w.heap.size, 2, none⟩ = some (.string t) ∧ X.cell? ⟨w.heap.size, 3, none⟩ = some (.int .i64 n) ∧ Below w.heap.size w X from fun X hX => by
    have h := (hX.block _ (lt_heap HA.out)).trans HA.out
    exact ⟨by rw [Lib.cell_of_heap h]; rfl, by rw [Lib.cell_of_heap h]; rfl, by rw [Lib.cell_of_heap h]; rfl, by rw [Lib.cell_of_heap h]; rfl, HB0.out.trans (hX.mono HB0.out.size)⟩)
  clear HB0 HA
  cases a with
  | true =>
    simp only [Bool.true_or, if_true] at c1 c2 ⊢
    cases no with
    | false =>
      go_enter Tryz.func40, Tryz.ntmps40
      go_wp2_with fail
      refine (c1 _).mono ?_
      rintro e w1 ⟨rfl, hb1⟩
      obtain ⟨x0, x1, x2, x3, HB⟩ := K.out _ hb1
      go_wp2_with fail
      refine (c2 _).mono ?_
      rintro e w2 ⟨rfl, hb2⟩
      go_wp2
      go_ret
      exact ⟨by simp, HB.trans (hb2.mono HB.size)⟩
    | true =>
      cases d1
      all_goals (
        go_enter Tryz.func40, Tryz.ntmps40
        go_wp2_with fail
        refine (c1 _).mono ?_
        rintro e w1 ⟨rfl, hb1⟩
        obtain ⟨x0, x1, x2, x3, HB⟩ := K.out _ hb1
        go_wp2_with fail
        refine (c2 _).mono ?_
        rintro e w2 ⟨rfl, hb2⟩
        have hb12 := hb1.trans (hb2.mono hb1.size)
        clear x0 x1 x2 x3 HB
        obtain ⟨x0, x1, x2, x3, HB⟩ := K.out _ hb12
        go_wp2_with fail
        refine (c3 _).mono ?_
        rintro e w3 ⟨rfl, hb3⟩
        have hb13 := hb12.trans (hb3.mono hb12.size)
        clear x0 x1 x2 x3 HB
        obtain ⟨x0, x1, x2, x3, HB⟩ := K.out _ hb13
        go_wp2_with (go_at_call 42; refine (c4 _).mono ?_; rintro e w4 ⟨rfl, rfl⟩)
        go_ret
        exact ⟨by simp, HB⟩)
  | false =>
    simp only [Bool.false_or, Bool.false_eq_true, if_false] at c1 c2 ⊢
    cases b with
    | false =>
      go_enter Tryz.func40, Tryz.ntmps40
      go_wp2_with fail
      refine (c1 _).mono ?_
      rintro e w1 ⟨rfl, hb1⟩
      obtain ⟨x0, x1, x2, x3, HB⟩ := K.out _ hb1
      go_wp2
      go_ret
      exact ⟨by simp, HB⟩
    | true =>
      cases wo with
      | false =>
        go_enter Tryz.func40, Tryz.ntmps40
        go_wp2_with fail
        refine (c1 _).mono ?_
        rintro e w1 ⟨rfl, hb1⟩
        obtain ⟨x0, x1, x2, x3, HB⟩ := K.out _ hb1
        go_wp2_with fail
        refine (c2 _).mono ?_
        rintro e w2 ⟨rfl, hb2⟩
        go_wp2
        go_ret
        exact ⟨by simp, HB.trans (hb2.mono HB.size)⟩
      | true =>
        cases d3 with
        | false =>
          go_enter Tryz.func40, Tryz.ntmps40
          go_wp2_with fail
          refine (c1 _).mono ?_
          rintro e w1 ⟨rfl, hb1⟩
          obtain ⟨x0, x1, x2, x3, HB⟩ := K.out _ hb1
          go_wp2_with fail
          refine (c2 _).mono ?_
          rintro e w2 ⟨rfl, hb2⟩
          have hb12 := hb1.trans (hb2.mono hb1.size)
          clear x0 x1 x2 x3 HB
          obtain ⟨x0, x1, x2, x3, HB⟩ := K.out _ hb12
          go_wp2_with fail
          refine (c3 _).mono ?_
          rintro e w3 ⟨rfl, hb3⟩
          have hb13 := hb12.trans (hb3.mono hb12.size)
          clear x0 x1 x2 x3 HB
          obtain ⟨x0, x1, x2, x3, HB⟩ := K.out _ hb13
          go_wp2
          go_ret
          exact ⟨by simp, HB⟩
        | true =>
          go_enter Tryz.func40, Tryz.ntmps40
          go_wp2_with fail
          refine (c1 _).mono ?_
          rintro e w1 ⟨rfl, hb1⟩
          obtain ⟨x0, x1, x2, x3, HB⟩ := K.out _ hb1
          go_wp2_with fail
          refine (c2 _).mono ?_
          rintro e w2 ⟨rfl, hb2⟩
          have hb12 := hb1.trans (hb2.mono hb1.size)
          clear x0 x1 x2 x3 HB
          obtain ⟨x0, x1, x2, x3, HB⟩ := K.out _ hb12
          go_wp2_with fail
          refine (c3 _).mono ?_
          rintro e w3 ⟨rfl, hb3⟩
          have hb13 := hb12.trans (hb3.mono hb12.size)
          clear x0 x1 x2 x3 HB
          obtain ⟨x0, x1, x2, x3, HB⟩ := K.out _ hb13
          go_wp2_with fail
          refine (c5 _).mono ?_
          rintro e w4 ⟨rfl, hb4⟩
          go_wp2
          go_ret
          exact ⟨by simp, HB.trans (hb4.mono HB.size)⟩
end Go.Proofs.YtimlnbfalnkmhaaGreatDoor
