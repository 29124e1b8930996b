/-
  Queries: what spec.l05Numbers, l05Words, l02Kinds, l05Number, l05Field, l05Op, l05Word answer: contracts over the seat's program.
-/
import Derived.Test.YthgmphmghnonbaaDoorZQuM
import Derived.Test.YthgmphmghnonbaaDoorZDf
namespace Go.Proofs.YthgmphmghnonbaaDoor
open Go.RowKit

theorem row_sl (w : World) (ss : List ByteArray) (T : TypeId) (h : 0 < ss.length) : StrSl (w.alloc (.cells (ss.map Value.string).toArray T)) (.slice (some ⟨w.heap.size, 0, none⟩) ss.length ss.length) ss := by
  refine .inr ⟨w.heap.size, 0, ss.length, rfl, ⟨h, Nat.le_refl _⟩, by simp, fun i hi => ?_⟩
  rw [Lib.cell_of_heap (heap_alloc_new _ _)]
  simp [hi]
theorem at_nums (f : ByteArray) : decide (0 ≤ atI nums f) = numF f := by
  rw [Bool.eq_iff_iff, decide_eq_true_iff, atI_ge]
  simp [nums, numF, or_assoc]
theorem at_wrds (f : ByteArray) : decide (0 ≤ atI wrds f) = wrdF f := by
  rw [Bool.eq_iff_iff, decide_eq_true_iff, atI_ge]
  simp [wrds, wrdF, or_assoc]
theorem at_nops (f : ByteArray) : decide (0 ≤ atI nops f) = numO f := by
  rw [Bool.eq_iff_iff, decide_eq_true_iff, atI_ge]
  simp [nops, numO, or_assoc]
theorem at_kinds (f : ByteArray) : decide (0 ≤ atI kinds f) = isK f := by
  rw [Bool.eq_iff_iff, decide_eq_true_iff, atI_ge]
  simp [kinds, isK, or_assoc]
theorem isK_nr {t : ByteArray} (h : isK t = true) : nrB t = true := by
  have h1 : ∀ s ∈ kinds, nrB s = true := by decide
  refine h1 t ?_
  simpa [kinds, isK, or_assoc] using h
theorem l05Numbers_any (w : World) : Calls Tryd.prog 41 #[] w fun e w' => ∃ v, e = .returned v ∧ StrSl w' v nums ∧ Below w.heap.size w w' := by
  go_enter Tryd.func41, Tryd.ntmps41
  go_wp2
  go_ret
  exact ⟨_, rfl, row_sl w nums _ (by decide), (Below.refl _ _).alloc (Nat.le_refl _) _⟩
theorem l05Words_any (w : World) : Calls Tryd.prog 40 #[] w fun e w' => ∃ v, e = .returned v ∧ StrSl w' v wrds ∧ Below w.heap.size w w' := by
  go_enter Tryd.func40, Tryd.ntmps40
  go_wp2
  go_ret
  exact ⟨_, rfl, row_sl w wrds _ (by decide), (Below.refl _ _).alloc (Nat.le_refl _) _⟩
theorem l02Kinds_any (w : World) : Calls Tryd.prog 50 #[] w fun e w' => ∃ v, e = .returned v ∧ StrSl w' v kinds ∧ Below w.heap.size w w' := by
  go_enter Tryd.func50, Tryd.ntmps50
  go_wp2
  go_ret
  exact ⟨_, rfl, row_sl w kinds _ (by decide), (Below.refl _ _).alloc (Nat.le_refl _) _⟩
theorem l05Number_any (f : ByteArray) (w : World) : Calls Tryd.prog 23 #[.string f] w fun e w' => e = .returned (.bool (numF f)) ∧ Below w.heap.size w w' := by
  have c1 := l05Numbers_any w
  have hz := at_nums f
  generalize numF f = B at *
  have c2 := fun v w (h : Hid (StrSl w v nums)) => l03At_any v nums f w h.out (by decide)
  generalize atI nums f = n at *
  go_enter Tryd.func23, Tryd.ntmps23
  go_wp2_with (first
    | (go_at_call 41; refine c1.mono ?_; rintro e w1 ⟨v, rfl, hv, hb⟩; have HV := hid hv; clear hv c1)
    | (go_at_call 39; refine (c2 _ _ HV).mono ?_; rintro e w2 ⟨rfl, rfl⟩))
  go_ret
  exact ⟨rfl, hb⟩
theorem l05Field_any (f : ByteArray) (w : World) : Calls Tryd.prog 22 #[.string f] w fun e w' => e = .returned (.bool (isF f)) ∧ Below w.heap.size w w' := by
  have c0 := l05Number_any f w
  have c1 := fun w => l05Words_any w
  have hz := at_wrds f
  unfold isF
  generalize numF f = B0 at *
  generalize wrdF f = B at *
  have c2 := fun v w (h : Hid (StrSl w v wrds)) => l03At_any v wrds f w h.out (by decide)
  generalize atI wrds f = n at *
  cases B0 with
  | true =>
    go_enter Tryd.func22, Tryd.ntmps22
    go_wp2_with (first
      | (go_at_call 23; refine c0.mono ?_; rintro e w0 ⟨rfl, hb0⟩))
    go_ret
    exact ⟨rfl, hb0⟩
  | false =>
    go_enter Tryd.func22, Tryd.ntmps22
    go_wp2_with (first
      | (go_at_call 23; refine c0.mono ?_; rintro e w0 ⟨rfl, hb0⟩; clear c0)
      | (go_at_call 40; refine (c1 _).mono ?_; rintro e w1 ⟨v, rfl, hv, hb⟩; have HV := hid hv; clear hv c1)
      | (go_at_call 39; refine (c2 _ _ HV).mono ?_; rintro e w2 ⟨rfl, rfl⟩))
    go_ret
    exact ⟨rfl, hb0.trans (hb.mono hb0.size)⟩
/-- May it be held so against that field? -/
def opR (f o : ByteArray) : Bool := if numF f then numO o else wrdO o
theorem l05Op_any (f o : ByteArray) (w : World) : Calls Tryd.prog 37 #[.string f, .string o] w fun e w' => e = .returned (.bool (opR f o)) ∧ Below w.heap.size w w' := by
  have c0 := l05Number_any f w
  unfold opR
  generalize numF f = B0 at *
  cases B0 with
  | true =>
    simp only [if_true]
    have hz := at_nops o
    generalize numO o = B at *
    have c2 := fun w => l03At_any _ nops o _ (row_sl w nops 9 (by decide)) (by decide)
    generalize atI nops o = n at *
    go_enter Tryd.func37, Tryd.ntmps37
    go_wp2_with (first
      | (go_at_call 23; refine c0.mono ?_; rintro e w0 ⟨rfl, hb0⟩; clear c0)
      | (go_at_call 39; refine (c2 w0).mono ?_; rintro e w2 ⟨rfl, rfl⟩; clear c2))
    go_ret
    exact ⟨rfl, hb0.alloc hb0.size _⟩
  | false =>
    simp only [Bool.false_eq_true, if_false]
    have e0 : (o.toList == [61]) = decide (o = oEq) := lit_b o _ _ rfl
    have e1 : (o.toList == [33, 61]) = decide (o = oNe) := lit_b o _ _ rfl
    unfold wrdO
    generalize decide (o = oEq) = b0 at *
    generalize decide (o = oNe) = b1 at *
    cases b0 with
    | true =>
      clear e1
      go_enter Tryd.func37, Tryd.ntmps37
      go_wp2_with (first
        | (go_at_call 23; refine c0.mono ?_; rintro e w0 ⟨rfl, hb0⟩; clear c0))
      go_ret
      exact ⟨by simp, hb0⟩
    | false =>
      cases b1
      all_goals (
        go_enter Tryd.func37, Tryd.ntmps37
        go_wp2_with (first
          | (go_at_call 23; refine c0.mono ?_; rintro e w0 ⟨rfl, hb0⟩; clear c0))
        go_ret
        exact ⟨by simp, hb0⟩)
theorem l05Word_any (f t : ByteArray) (w : World) (hs : t.size ≤ maxLen) : Calls Tryd.prog 38 #[.string f, .string t] w fun e w' => e = .returned (.bool (wrdR f t)) ∧ Below w.heap.size w w' := by
  have c0 := specNameRight_any t w hs
  have c1 := fun w => l02Kinds_any w
  have hz := at_kinds t
  have e0 : (f.toList == [107, 105, 110, 100]) = decide (f = qKind) := lit_b f _ _ rfl
  have hn := @isK_nr t
  have c2 := fun v w (h : Hid (StrSl w v kinds)) => l03At_any v kinds t w h.out (by decide)
  unfold wrdR
  clear hs
  generalize atI kinds t = n at *
  generalize isK t = K at *
  generalize nrB t = N at *
  by_cases hf : f = qKind
  · rw [decide_eq_true hf] at e0
    rw [if_pos hf]
    clear hf
    cases N with
    | false =>
      have : K = false := by cases K; rfl; exact absurd (hn rfl) (by decide)
      subst this
      go_enter Tryd.func38, Tryd.ntmps38
      go_wp2_with (first
        | (go_at_call 49; refine c0.mono ?_; rintro e w0 ⟨rfl, rfl⟩; clear c0))
      go_ret
      exact ⟨rfl, Below.refl _ _⟩
    | true =>
      clear hn
      go_enter Tryd.func38, Tryd.ntmps38
      go_wp2_with (first
        | (go_at_call 49; refine c0.mono ?_; rintro e w0 ⟨rfl, rfl⟩; clear c0)
        | (go_at_call 50; refine (c1 _).mono ?_; rintro e w1 ⟨v, rfl, hv, hb⟩; have HV := hid hv; clear hv c1)
        | (go_at_call 39; refine (c2 _ _ HV).mono ?_; rintro e w2 ⟨rfl, rfl⟩))
      go_ret
      exact ⟨rfl, hb⟩
  · rw [decide_eq_false hf] at e0
    rw [if_neg hf]
    clear hf hn hz c2 c1
    cases N
    all_goals (
      go_enter Tryd.func38, Tryd.ntmps38
      go_wp2_with (first
        | (go_at_call 49; refine c0.mono ?_; rintro e w0 ⟨rfl, rfl⟩; clear c0))
      go_ret
      exact ⟨rfl, Below.refl _ _⟩)
end Go.Proofs.YthgmphmghnonbaaDoor
