/-
  Texts put together: EvI, EvSp, SpStA.
-/
import Derived.Test.YtdggmeblnbabbaaGreatDoorZRiseM5
import Derived.Test.YtdggmeblnbabbaaGreatDoorZImMap5
import Derived.Laws.StructEq
import Derived.Test.YtdggmeblnbabbaaGreatDoorZSpStepG
import Derived.Test.YtdggmeblnbabbaaGreatDoorZSpDef
import Derived.Test.YtdggmeblnbabbaaGreatDoorZOwnB7
import Derived.Test.YtdggmeblnbabbaaGreatDoorZDfMath5
/-
  Events: what impl.kindRight and impl.EventRight answer, for every event: contracts over the seat's program.
-/
namespace Go.Proofs.YtdggmeblnbabbaaGreatDoor
open Go.RowKit

theorem emp_beq {s : ByteArray} (h : ¬ s = ByteArray.empty) : ¬ s.toList = [] := by
  intro e
  rw [ByteArray.toList_eq] at e
  exact h (ByteArray.ext (Array.toList_inj.1 e))
theorem knd_out {k : Int} {s v : ByteArray} (h1 : ¬ k = 1) (h2 : ¬ k = 2) (h3 : ¬ k = 3) (h4 : ¬ k = 4) (h5 : ¬ k = 5) (h6 : ¬ k = 6) : kndB k s v = false := by simp [kndB, h1, h2, h3, h4, h5, h6]
theorem knd_bare {k : Int} {s v : ByteArray} (hk : k = 1 ∨ k = 6) : kndB k s v = (decide (s = ByteArray.empty) && decide (v = ByteArray.empty)) := by
  rcases hk with rfl | rfl <;> simp [kndB]
theorem knd_step {k : Int} {s v : ByteArray} (hk : k = 2 ∨ k = 3 ∨ k = 5) : kndB k s v = (nrB s && decide (v = ByteArray.empty)) := by
  rcases hk with rfl | rfl | rfl <;> simp [kndB]
theorem knd_set {s v : ByteArray} : kndB 4 s v = (nrB s && decide (v.size ≤ 40)) := by simp [kndB]

set_option maxRecDepth 100000 in
set_option maxHeartbeats 1000000 in
theorem kindRight_bare (q t r k : Int) (s v : ByteArray) (w : World) (hk : k = 1 ∨ k = 6) :
    Calls Tryz.prog 70 #[.agg #[.int .i64 q, .int .i64 t, .int .i64 r, .int .i64 k, .string s, .string v]] w fun e w' => e = .returned (.bool (kndB k s v)) ∧ Below w.heap.size w w' := by
  rw [knd_bare hk]
  by_cases hs : s = ByteArray.empty
  · subst hs
    by_cases hv : v = ByteArray.empty
    · subst hv
      rcases hk with rfl | rfl
      all_goals
        go_enter Tryz.func70, Tryz.ntmps70
        go_wp2
        go_ret
        exact ⟨rfl, below2 _ _ _⟩
    · rw [show (decide (ByteArray.empty = ByteArray.empty) && decide (v = ByteArray.empty)) = false by simp [hv]]
      have hvb := emp_beq hv
      clear hv
      rcases hk with rfl | rfl
      all_goals
        go_enter Tryz.func70, Tryz.ntmps70
        go_wp2
        go_ret
        exact ⟨rfl, below2 _ _ _⟩
  · rw [show (decide (s = ByteArray.empty) && decide (v = ByteArray.empty)) = false by simp [hs]]
    have hsb := emp_beq hs
    clear hs
    rcases hk with rfl | rfl
    all_goals
      go_enter Tryz.func70, Tryz.ntmps70
      go_wp2
      go_ret
      exact ⟨rfl, below2 _ _ _⟩

set_option maxRecDepth 100000 in
set_option maxHeartbeats 1000000 in
theorem kindRight_step (q t r k : Int) (s v : ByteArray) (w : World) (hs : s.size ≤ maxLen) (hk : k = 2 ∨ k = 3 ∨ k = 5) :
    Calls Tryz.prog 70 #[.agg #[.int .i64 q, .int .i64 t, .int .i64 r, .int .i64 k, .string s, .string v]] w fun e w' => e = .returned (.bool (kndB k s v)) ∧ Below w.heap.size w w' := by
  rw [knd_step hk]
  have c1 := fun w => implNameRight_any s w hs
  clear hs
  by_cases hv : v = ByteArray.empty
  · subst hv
    rw [show (nrB s && decide (ByteArray.empty = ByteArray.empty)) = nrB s by simp]
    generalize nrB s = B at *
    rcases hk with rfl | rfl | rfl
    all_goals
      go_enter Tryz.func70, Tryz.ntmps70
      go_wp2_with (go_at_call 50; refine (c1 _).mono ?_; rintro e w1 ⟨rfl, rfl⟩)
      go_ret
      exact ⟨rfl, below2 _ _ _⟩
  · rw [show (nrB s && decide (v = ByteArray.empty)) = false by simp [hv]]
    have hvb := emp_beq hv
    clear hv
    rcases hk with rfl | rfl | rfl
    all_goals
      go_enter Tryz.func70, Tryz.ntmps70
      go_wp2
      go_ret
      exact ⟨rfl, below2 _ _ _⟩

set_option maxRecDepth 100000 in
set_option maxHeartbeats 1000000 in
theorem kindRight_set (q t r : Int) (s v : ByteArray) (w : World) (hs : s.size ≤ maxLen) :
    Calls Tryz.prog 70 #[.agg #[.int .i64 q, .int .i64 t, .int .i64 r, .int .i64 4, .string s, .string v]] w fun e w' => e = .returned (.bool (kndB 4 s v)) ∧ Below w.heap.size w w' := by
  rw [knd_set]
  have c1 := fun w => implNameRight_any s w hs
  clear hs
  cases hn : nrB s with
  | true =>
    rw [hn] at c1
    clear hn
    rw [Bool.true_and, show decide (v.size ≤ 40) = decide ((v.size : Int) ≤ 40) by simp only [decide_eq_decide]; omega]
    go_enter Tryz.func70, Tryz.ntmps70
    go_wp2_with (go_at_call 50; refine (c1 _).mono ?_; rintro e w1 ⟨rfl, rfl⟩)
    go_ret
    exact ⟨rfl, below2 _ _ _⟩
  | false =>
    rw [hn] at c1
    clear hn
    go_enter Tryz.func70, Tryz.ntmps70
    go_wp2_with (go_at_call 50; refine (c1 _).mono ?_; rintro e w1 ⟨rfl, rfl⟩)
    go_ret
    exact ⟨rfl, below2 _ _ _⟩

set_option maxRecDepth 100000 in
set_option maxHeartbeats 1000000 in
theorem kindRight_no (q t r k : Int) (s v : ByteArray) (w : World) (h1 : (k == 1) = false) (h2 : (k == 2) = false) (h3 : (k == 3) = false) (h4 : (k == 4) = false) (h5 : (k == 5) = false) (h6 : (k == 6) = false) :
    Calls Tryz.prog 70 #[.agg #[.int .i64 q, .int .i64 t, .int .i64 r, .int .i64 k, .string s, .string v]] w fun e w' => e = .returned (.bool false) ∧ Below w.heap.size w w' := by
  go_enter Tryz.func70, Tryz.ntmps70
  go_wp2
  go_ret
  exact ⟨rfl, below2 _ _ _⟩

theorem kindCases (k : Int) : (k = 1 ∨ k = 6) ∨ (k = 2 ∨ k = 3 ∨ k = 5) ∨ k = 4 ∨ (¬ k = 1 ∧ ¬ k = 2 ∧ ¬ k = 3 ∧ ¬ k = 4 ∧ ¬ k = 5 ∧ ¬ k = 6) := by omega
theorem kindRight_any (q t r k : Int) (s v : ByteArray) (w : World) (hs : s.size ≤ maxLen) :
    Calls Tryz.prog 70 #[.agg #[.int .i64 q, .int .i64 t, .int .i64 r, .int .i64 k, .string s, .string v]] w fun e w' => e = .returned (.bool (kndB k s v)) ∧ Below w.heap.size w w' := by
  rcases kindCases k with h | h | rfl | ⟨h1, h2, h3, h4, h5, h6⟩
  · exact kindRight_bare q t r k s v w h
  · exact kindRight_step q t r k s v w hs h
  · exact kindRight_set q t r s v w hs
  · rw [knd_out h1 h2 h3 h4 h5 h6]
    exact kindRight_no q t r k s v w (by simpa using h1) (by simpa using h2) (by simpa using h3) (by simpa using h4) (by simpa using h5) (by simpa using h6)

set_option maxRecDepth 100000 in
set_option maxHeartbeats 1000000 in
theorem implEventRight_any (q t r k : Int) (s v : ByteArray) (w : World) (hs : s.size ≤ maxLen) :
    Calls Tryz.prog 55 #[.agg #[.int .i64 q, .int .i64 t, .int .i64 r, .int .i64 k, .string s, .string v]] w fun e w' => e = .returned (.bool (evB ⟨q, t, r, k, s, v⟩)) ∧ Below w.heap.size w w' := by
  have c1 := fun w => isNumber_any q w
  have c2 := fun w => isTime_any t w
  have c3 := fun w => isNumber_any r w
  have c4 := fun w => kindRight_any q t r k s v w hs
  unfold evB
  generalize numB q = B1 at *
  generalize timB t = B2 at *
  generalize numB r = B3 at *
  generalize kndB k s v = B4 at *
  clear hs
  cases B1 with
  | false =>
    go_enter Tryz.func55, Tryz.ntmps55
    go_wp2_with fail
    refine (c1 _).mono ?_
    rintro e w1 ⟨rfl, rfl⟩
    go_wp2
    go_ret
    exact ⟨rfl, (Below.refl _ _).alloc (Nat.le_refl _) _⟩
  | true =>
    cases B2 with
    | false =>
      go_enter Tryz.func55, Tryz.ntmps55
      go_wp2_with fail
      refine (c1 _).mono ?_
      rintro e w1 ⟨rfl, rfl⟩
      go_wp2_with fail
      refine (c2 _).mono ?_
      rintro e w1 ⟨rfl, rfl⟩
      go_wp2
      go_ret
      exact ⟨ret_bool (by simp), (Below.refl _ _).alloc (Nat.le_refl _) _⟩
    | true =>
      cases B3 with
      | false =>
        go_enter Tryz.func55, Tryz.ntmps55
        go_wp2_with fail
        refine (c1 _).mono ?_
        rintro e w1 ⟨rfl, rfl⟩
        go_wp2_with fail
        refine (c2 _).mono ?_
        rintro e w1 ⟨rfl, rfl⟩
        go_wp2_with fail
        refine (c3 _).mono ?_
        rintro e w1 ⟨rfl, rfl⟩
        go_wp2
        go_ret
        exact ⟨rfl, (Below.refl _ _).alloc (Nat.le_refl _) _⟩
      | true =>
        go_enter Tryz.func55, Tryz.ntmps55
        go_wp2_with fail
        refine (c1 _).mono ?_
        rintro e w1 ⟨rfl, rfl⟩
        go_wp2_with fail
        refine (c2 _).mono ?_
        rintro e w1 ⟨rfl, rfl⟩
        go_wp2_with fail
        refine (c3 _).mono ?_
        rintro e w1 ⟨rfl, rfl⟩
        go_wp2_with fail
        refine (c4 _).mono ?_
        rintro e w2 ⟨rfl, hb⟩
        go_wp2
        go_ret
        exact ⟨rfl, ((Below.refl w.heap.size w).alloc (Nat.le_refl _) _).trans (hb.mono (B' := w.heap.size) (by simp))⟩
end Go.Proofs.YtdggmeblnbabbaaGreatDoor

/-
  Events: what spec.EventRight answers, for every event: a contract over the seat's program.
-/
namespace Go.Proofs.YtdggmeblnbabbaaGreatDoor
open Go.RowKit

theorem emp_is {s : ByteArray} (h : ¬ s = ByteArray.empty) : s.toList.isEmpty = false := by
  have := emp_beq h
  cases hl : s.toList with
  | nil => exact absurd hl this
  | cons a l => rfl
set_option maxRecDepth 100000 in
set_option maxHeartbeats 1000000 in
theorem specEventRight_tail (q t r k : Int) (s v : ByteArray) (w : World) (hs : s.size ≤ maxLen)
    (c1 : ∀ w, Calls Tryz.prog 40 #[.int .i64 q, .int .i64 1, .int .i64 1000000] w fun e w' => e = .returned (.bool true) ∧ w' = w)
    (c2 : ∀ w, Calls Tryz.prog 40 #[.int .i64 r, .int .i64 1, .int .i64 1000000] w fun e w' => e = .returned (.bool true) ∧ w' = w)
    (c3 : ∀ w, Calls Tryz.prog 41 #[.int .i64 t] w fun e w' => e = .returned (.bool true) ∧ w' = w) :
    Calls Tryz.prog 21 #[.agg #[.int .i64 q, .int .i64 t, .int .i64 r, .int .i64 k, .string s, .string v]] w fun e w' => e = .returned (.bool (kndB k s v)) ∧ Below w.heap.size w w' := by
  have c4 := fun w => specNameRight_any s w hs
  clear hs
  rcases kindCases k with hk | hk | rfl | ⟨h1, h2, h3, h4, h5, h6⟩
  · rw [knd_bare hk]
    by_cases hs : s = ByteArray.empty
    · subst hs
      by_cases hv : v = ByteArray.empty
      · subst hv
        rcases hk with rfl | rfl
        all_goals
          go_enter Tryz.func21, Tryz.ntmps21
          go_wp2_with fail
          refine (c1 _).mono ?_
          rintro e w1 ⟨rfl, rfl⟩
          go_wp2_with fail
          refine (c2 _).mono ?_
          rintro e w1 ⟨rfl, rfl⟩
          go_wp2_with fail
          refine (c3 _).mono ?_
          rintro e w1 ⟨rfl, rfl⟩
          go_wp2
          go_ret
          exact ⟨rfl, (Below.refl _ _).alloc (Nat.le_refl _) _⟩
      · rw [show (decide (ByteArray.empty = ByteArray.empty) && decide (v = ByteArray.empty)) = false by simp [hv]]
        have hvb := emp_beq hv
        have hvi := emp_is hv
        clear hv
        rcases hk with rfl | rfl
        all_goals
          go_enter Tryz.func21, Tryz.ntmps21
          go_wp2_with fail
          refine (c1 _).mono ?_
          rintro e w1 ⟨rfl, rfl⟩
          go_wp2_with fail
          refine (c2 _).mono ?_
          rintro e w1 ⟨rfl, rfl⟩
          go_wp2_with fail
          refine (c3 _).mono ?_
          rintro e w1 ⟨rfl, rfl⟩
          go_wp2
          go_ret
          exact ⟨rfl, (Below.refl _ _).alloc (Nat.le_refl _) _⟩
    · rw [show (decide (s = ByteArray.empty) && decide (v = ByteArray.empty)) = false by simp [hs]]
      have hsb := emp_beq hs
      have hsi := emp_is hs
      clear hs
      rcases hk with rfl | rfl
      all_goals
        go_enter Tryz.func21, Tryz.ntmps21
        go_wp2_with fail
        refine (c1 _).mono ?_
        rintro e w1 ⟨rfl, rfl⟩
        go_wp2_with fail
        refine (c2 _).mono ?_
        rintro e w1 ⟨rfl, rfl⟩
        go_wp2_with fail
        refine (c3 _).mono ?_
        rintro e w1 ⟨rfl, rfl⟩
        go_wp2
        go_ret
        exact ⟨rfl, (Below.refl _ _).alloc (Nat.le_refl _) _⟩
  · rw [knd_step hk]
    cases hn : nrB s with
    | false =>
      rw [hn] at c4
      clear hn
      rw [Bool.false_and]
      rcases hk with rfl | rfl | rfl
      all_goals
        go_enter Tryz.func21, Tryz.ntmps21
        go_wp2_with fail
        refine (c1 _).mono ?_
        rintro e w1 ⟨rfl, rfl⟩
        go_wp2_with fail
        refine (c2 _).mono ?_
        rintro e w1 ⟨rfl, rfl⟩
        go_wp2_with fail
        refine (c3 _).mono ?_
        rintro e w1 ⟨rfl, rfl⟩
        go_wp2_with fail
        refine (c4 _).mono ?_
        rintro e w1 ⟨rfl, rfl⟩
        go_wp2
        go_ret
        exact ⟨rfl, (Below.refl _ _).alloc (Nat.le_refl _) _⟩
    | true =>
      rw [hn] at c4
      clear hn
      rw [Bool.true_and]
      by_cases hv : v = ByteArray.empty
      · subst hv
        rcases hk with rfl | rfl | rfl
        all_goals
          go_enter Tryz.func21, Tryz.ntmps21
          go_wp2_with fail
          refine (c1 _).mono ?_
          rintro e w1 ⟨rfl, rfl⟩
          go_wp2_with fail
          refine (c2 _).mono ?_
          rintro e w1 ⟨rfl, rfl⟩
          go_wp2_with fail
          refine (c3 _).mono ?_
          rintro e w1 ⟨rfl, rfl⟩
          go_wp2_with fail
          refine (c4 _).mono ?_
          rintro e w1 ⟨rfl, rfl⟩
          go_wp2
          go_ret
          exact ⟨rfl, (Below.refl _ _).alloc (Nat.le_refl _) _⟩
      · rw [show decide (v = ByteArray.empty) = false by simp [hv]]
        have hvb := emp_beq hv
        have hvi := emp_is hv
        clear hv
        rcases hk with rfl | rfl | rfl
        all_goals
          go_enter Tryz.func21, Tryz.ntmps21
          go_wp2_with fail
          refine (c1 _).mono ?_
          rintro e w1 ⟨rfl, rfl⟩
          go_wp2_with fail
          refine (c2 _).mono ?_
          rintro e w1 ⟨rfl, rfl⟩
          go_wp2_with fail
          refine (c3 _).mono ?_
          rintro e w1 ⟨rfl, rfl⟩
          go_wp2_with fail
          refine (c4 _).mono ?_
          rintro e w1 ⟨rfl, rfl⟩
          go_wp2
          go_ret
          exact ⟨rfl, (Below.refl _ _).alloc (Nat.le_refl _) _⟩
  · rw [knd_set, show decide (v.size ≤ 40) = decide ((v.size : Int) ≤ 40) by simp only [decide_eq_decide]; omega]
    cases hn : nrB s with
    | false =>
      rw [hn] at c4
      clear hn
      rw [Bool.false_and]
      go_enter Tryz.func21, Tryz.ntmps21
      go_wp2_with fail
      refine (c1 _).mono ?_
      rintro e w1 ⟨rfl, rfl⟩
      go_wp2_with fail
      refine (c2 _).mono ?_
      rintro e w1 ⟨rfl, rfl⟩
      go_wp2_with fail
      refine (c3 _).mono ?_
      rintro e w1 ⟨rfl, rfl⟩
      go_wp2_with fail
      refine (c4 _).mono ?_
      rintro e w1 ⟨rfl, rfl⟩
      go_wp2
      go_ret
      exact ⟨rfl, (Below.refl _ _).alloc (Nat.le_refl _) _⟩
    | true =>
      rw [hn] at c4
      clear hn
      rw [Bool.true_and]
      go_enter Tryz.func21, Tryz.ntmps21
      go_wp2_with fail
      refine (c1 _).mono ?_
      rintro e w1 ⟨rfl, rfl⟩
      go_wp2_with fail
      refine (c2 _).mono ?_
      rintro e w1 ⟨rfl, rfl⟩
      go_wp2_with fail
      refine (c3 _).mono ?_
      rintro e w1 ⟨rfl, rfl⟩
      go_wp2_with fail
      refine (c4 _).mono ?_
      rintro e w1 ⟨rfl, rfl⟩
      go_wp2
      go_ret
      exact ⟨rfl, (Below.refl _ _).alloc (Nat.le_refl _) _⟩
  · rw [knd_out h1 h2 h3 h4 h5 h6]
    have e1 : (k == 1) = false := by simpa using h1
    have e2 : (k == 2) = false := by simpa using h2
    have e3 : (k == 3) = false := by simpa using h3
    have e4 : (k == 4) = false := by simpa using h4
    have e5 : (k == 5) = false := by simpa using h5
    have e6 : (k == 6) = false := by simpa using h6
    clear h1 h2 h3 h4 h5 h6
    go_enter Tryz.func21, Tryz.ntmps21
    go_wp2_with fail
    refine (c1 _).mono ?_
    rintro e w1 ⟨rfl, rfl⟩
    go_wp2_with fail
    refine (c2 _).mono ?_
    rintro e w1 ⟨rfl, rfl⟩
    go_wp2_with fail
    refine (c3 _).mono ?_
    rintro e w1 ⟨rfl, rfl⟩
    go_wp2
    go_ret
    exact ⟨rfl, (Below.refl _ _).alloc (Nat.le_refl _) _⟩

set_option maxRecDepth 100000 in
set_option maxHeartbeats 1000000 in
theorem specEventRight_any (q t r k : Int) (s v : ByteArray) (w : World) (hs : s.size ≤ maxLen) :
    Calls Tryz.prog 21 #[.agg #[.int .i64 q, .int .i64 t, .int .i64 r, .int .i64 k, .string s, .string v]] w fun e w' => e = .returned (.bool (evB ⟨q, t, r, k, s, v⟩)) ∧ Below w.heap.size w w' := by
  have c1 : ∀ w, Calls Tryz.prog 40 #[.int .i64 q, .int .i64 1, .int .i64 1000000] w fun e w' => e = .returned (.bool (numB q)) ∧ w' = w := fun w => l02Is_any q 1 1000000 w
  have c2 : ∀ w, Calls Tryz.prog 40 #[.int .i64 r, .int .i64 1, .int .i64 1000000] w fun e w' => e = .returned (.bool (numB r)) ∧ w' = w := fun w => l02Is_any r 1 1000000 w
  have c3 := fun w => l02Time_any t w
  unfold evB
  generalize numB q = B1 at *
  generalize timB t = B2 at *
  generalize numB r = B3 at *
  cases B1 with
  | false =>
    clear hs
    go_enter Tryz.func21, Tryz.ntmps21
    go_wp2_with fail
    refine (c1 _).mono ?_
    rintro e w1 ⟨rfl, rfl⟩
    go_wp2
    go_ret
    exact ⟨rfl, (Below.refl _ _).alloc (Nat.le_refl _) _⟩
  | true =>
    cases B3 with
    | false =>
      clear hs
      go_enter Tryz.func21, Tryz.ntmps21
      go_wp2_with fail
      refine (c1 _).mono ?_
      rintro e w1 ⟨rfl, rfl⟩
      go_wp2_with fail
      refine (c2 _).mono ?_
      rintro e w1 ⟨rfl, rfl⟩
      go_wp2
      go_ret
      exact ⟨ret_bool (by simp), (Below.refl _ _).alloc (Nat.le_refl _) _⟩
    | true =>
      cases B2 with
      | false =>
        clear hs
        go_enter Tryz.func21, Tryz.ntmps21
        go_wp2_with fail
        refine (c1 _).mono ?_
        rintro e w1 ⟨rfl, rfl⟩
        go_wp2_with fail
        refine (c2 _).mono ?_
        rintro e w1 ⟨rfl, rfl⟩
        go_wp2_with fail
        refine (c3 _).mono ?_
        rintro e w1 ⟨rfl, rfl⟩
        go_wp2
        go_ret
        exact ⟨ret_bool (by simp), (Below.refl _ _).alloc (Nat.le_refl _) _⟩
      | true =>
        simp only [Bool.true_and]
        exact specEventRight_tail q t r k s v w hs c1 c2 c3
end Go.Proofs.YtdggmeblnbabbaaGreatDoor

/-
  What spec.l03Step answers at every right event: a contract over the seat's program. (Cut off SpStS.)
-/
namespace Go.Proofs.YtdggmeblnbabbaaGreatDoor
open Go.RowKit Go.Sort

abbrev stV (a3 a4 a5 : Option Addr) (k3 k4 k5 : Nat) (S : St) : Value := .agg #[.int .i64 S.status, .int .i64 S.begun, .int .i64 S.last, .slice a3 S.wait.length k3, .slice a4 S.busy.length k4, .slice a5 S.vars.length k5, .int .i64 S.faults]
theorem ev_kind {e : Ev} (h : evB e = true) : e.kind = 1 ∨ e.kind = 2 ∨ e.kind = 3 ∨ e.kind = 4 ∨ e.kind = 5 ∨ e.kind = 6 := by
  have hk := (ev_parts h).2
  unfold kndB at hk
  split at hk
  · omega
  · split at hk
    · omega
    · split at hk
      · omega
      · cases hk
theorem ev_size {e : Ev} (h : evB e = true) : e.step.size ≤ 20 ∧ e.val.size ≤ 40 := by
  have hk := (ev_parts h).2
  unfold kndB at hk
  have nz : ∀ s : ByteArray, nrB s = true → s.size ≤ 20 := fun s h => by unfold nrB at h; simp only [Bool.and_eq_true, decide_eq_true_eq] at h; exact h.2.1
  split at hk
  · simp only [Bool.and_eq_true, decide_eq_true_eq] at hk
    rw [hk.1, hk.2]; decide
  · split at hk
    · simp only [Bool.and_eq_true, decide_eq_true_eq] at hk
      rw [hk.2]
      exact ⟨nz _ hk.1, by decide⟩
    · split at hk
      · simp only [Bool.and_eq_true, decide_eq_true_eq] at hk
        exact ⟨nz _ hk.1, hk.2⟩
      · cases hk
/-- What is small of a right State. -/
theorem stP_small {ss : List ByteArray} {S : St} (h : StP ss S) : S.wait.length ≤ 40 ∧ S.busy.length ≤ 40 ∧ S.vars.length ≤ 20 ∧ 0 ≤ S.faults := by
  rcases h with ⟨_, h⟩ | ⟨_, h⟩ | ⟨_, _, h⟩
  · have := h.w; have := h.b; have := h.v0; have := h.f0; omega
  · have := h.m; have := h.v.n; have := tim_iff.1 h.f; omega
  · have := h.m; have := h.v.n; have := tim_iff.1 h.f; omega
structure StSl (w : World) (a3 a4 a5 : Option Addr) (k3 k4 k5 : Nat) (S : St) : Prop where
  h3 : StrSl w (.slice a3 S.wait.length k3) S.wait
  h4 : StrSl w (.slice a4 S.busy.length k4) S.busy
  h5 : PrSl w (.slice a5 S.vars.length k5) S.vars
theorem StSl.stay {w w' : World} {a3 a4 a5 : Option Addr} {k3 k4 k5 : Nat} {S : St} (h : StSl w a3 a4 a5 k3 k4 k5 S) (hb : Below w.heap.size w w') : StSl w' a3 a4 a5 k3 k4 k5 S := ⟨h.h3.stay hb (Nat.le_refl _), h.h4.stay hb (Nat.le_refl _), h.h5.stay hb (Nat.le_refl _)⟩
theorem StepPost.mono {n m : Nat} {w w0 : World} {c : Int} {S : St} {x : Ending} {w' : World} (h : StepPost n w c S x w') (hn : m ≤ n) (hb : Below w0.heap.size w0 w) : StepPost m w0 c S x w' := by
  obtain ⟨u3, u4, u5, hx, hO, hB⟩ := h
  exact ⟨u3, u4, u5, hx, ⟨ownB_le hO.o3 hn, ownB_le hO.o4 hn, ownB_le hO.o5 hn, hO.a34⟩, hb.trans (hB.mono hb.size)⟩
theorem l03Step_any (a1 a2 a3 a4 a5 : Option Addr) (k1 k2 k3 k4 k5 : Nat) (ss : List ByteArray) (fs : List Pr) (S : St) (e : Ev) (w : World) (hD : DefSl w a1 a2 k1 k2 ss fs) (hT : StSl w a3 a4 a5 k3 k4 k5 S) (h0 : 0 < ss.length) (hfl : fs.length ≤ 40) (n3 : S.wait.length ≤ 1000) (n4 : S.busy.length ≤ 1000) (n5 : S.vars.length ≤ 1000) (hf0 : 0 ≤ S.faults) (hkk : e.kind = 1 ∨ e.kind = 2 ∨ e.kind = 3 ∨ e.kind = 4 ∨ e.kind = 5 ∨ e.kind = 6) :
    Calls Tryz.prog 22 #[defV a1 a2 k1 k2 ss fs, stV a3 a4 a5 k3 k4 k5 S, evV e] w fun x w' => StepPost w.heap.size w (stepS ss fs S e).1 (stepS ss fs S e).2 x w' := by
  unfold stepS
  by_cases hk : e.kind = 1
  · by_cases hs : S.status = 0
    · rw [if_pos (show awB S.status e.kind = true by unfold awB; rw [if_pos hk, hs]; rfl)]
      by_cases ht : e.time < S.last
      · rw [if_pos ht]; exact l03Step_early1 a1 a2 a3 a4 a5 k1 k2 k3 k4 k5 ss fs _ _ _ _ _ _ _ _ _ _ _ _ _ w hk hs ht
      · rw [if_neg ht]; exact l03Step_go1 a1 a2 a3 a4 a5 k1 k2 k3 k4 k5 ss fs _ _ _ _ _ _ _ _ _ _ _ _ _ w hD.h1 hD.h2 hT.h3 hT.h4 hT.h5 h0 hfl hD.l1 hD.l2 n3 n4 n5 hf0 hkk hk hs ht
    · rw [if_neg (show ¬ awB S.status e.kind = true by unfold awB; rw [if_pos hk]; simpa using hs)]
      exact l03Step_state1 a1 a2 a3 a4 a5 k1 k2 k3 k4 k5 ss fs _ _ _ _ _ _ _ _ _ _ _ _ _ w (by rw [hk]; rfl) hs
  · by_cases hs : S.status = 1
    · rw [if_pos (show awB S.status e.kind = true by unfold awB; rw [if_neg hk, hs]; rfl)]
      by_cases ht : e.time < S.last
      · rw [if_pos ht]; exact l03Step_early2 a1 a2 a3 a4 a5 k1 k2 k3 k4 k5 ss fs _ _ _ _ _ _ _ _ _ _ _ _ _ w hk hs ht
      · rw [if_neg ht]; exact l03Step_go2 a1 a2 a3 a4 a5 k1 k2 k3 k4 k5 ss fs _ _ _ _ _ _ _ _ _ _ _ _ _ w hD.h1 hD.h2 hT.h3 hT.h4 hT.h5 h0 hfl hD.l1 hD.l2 n3 n4 n5 hf0 hkk hk hs ht
    · rw [if_neg (show ¬ awB S.status e.kind = true by unfold awB; rw [if_neg hk]; simpa using hs)]
      exact l03Step_state2 a1 a2 a3 a4 a5 k1 k2 k3 k4 k5 ss fs _ _ _ _ _ _ _ _ _ _ _ _ _ w hk hs
open Classical in
/-- What StateStep answers. -/
noncomputable def rS (ss : List ByteArray) (fs : List Pr) (S : St) (e : Ev) : Int × St := if (DefP ss fs ∧ StP ss S) ∧ evB e = true then stepS ss fs S e else (1, z0)
theorem rS_no {ss : List ByteArray} {fs : List Pr} {S : St} {e : Ev} (h : ¬ ((DefP ss fs ∧ StP ss S) ∧ evB e = true)) : rS ss fs S e = (1, z0) := if_neg h
theorem rS_yes {ss : List ByteArray} {fs : List Pr} {S : St} {e : Ev} (h : (DefP ss fs ∧ StP ss S) ∧ evB e = true) : rS ss fs S e = stepS ss fs S e := if_pos h
theorem StOwn.le {w : World} {lo m : Nat} {v3 v4 v5 : Value} {S : St} (h : StOwn w lo v3 v4 v5 S) (hn : m ≤ lo) : StOwn w m v3 v4 v5 S := ⟨ownB_le h.o3 hn, ownB_le h.o4 hn, ownB_le h.o5 hn, h.a34⟩
theorem StOwn.forms {w : World} {lo : Nat} {v3 v4 v5 : Value} {S : St} (h : StOwn w lo v3 v4 v5 S) : ∃ a3 a4 a5 k3 k4 k5, v3 = .slice a3 S.wait.length k3 ∧ v4 = .slice a4 S.busy.length k4 ∧ v5 = .slice a5 S.vars.length k5 := by
  obtain ⟨a3, k3, h3⟩ := ownB_form h.o3
  obtain ⟨a4, k4, h4⟩ := ownB_form h.o4
  obtain ⟨a5, k5, h5⟩ := ownB_form h.o5
  exact ⟨a3, a4, a5, k3, k4, k5, h3, h4, h5⟩
end Go.Proofs.YtdggmeblnbabbaaGreatDoor
