/-
  Events: what spec.EventRight answers, for every event: a contract over the seat's program.
-/
import Derived.Test.YticnffakngpkfaaDoorEvI
namespace Go.Proofs.YticnffakngpkfaaDoor
open Go.RowKit

theorem emp_is {s : ByteArray} (h : ¬ s = ByteArray.empty) : s.toList.isEmpty = false := by
  have := emp_beq h
  cases hl : s.toList with
  | nil => exact absurd hl this
  | cons a l => rfl
set_option maxRecDepth 100000 in
set_option maxHeartbeats 1000000 in
theorem specEventRight_tail (q t r k : Int) (s v : ByteArray) (w : World) (hs : s.size ≤ maxLen)
    (c1 : ∀ w, Calls Tryd.prog 36 #[.int .i64 q, .int .i64 1, .int .i64 1000000] w fun e w' => e = .returned (.bool true) ∧ w' = w)
    (c2 : ∀ w, Calls Tryd.prog 36 #[.int .i64 r, .int .i64 1, .int .i64 1000000] w fun e w' => e = .returned (.bool true) ∧ w' = w)
    (c3 : ∀ w, Calls Tryd.prog 37 #[.int .i64 t] w fun e w' => e = .returned (.bool true) ∧ w' = w) :
    Calls Tryd.prog 14 #[.agg #[.int .i64 q, .int .i64 t, .int .i64 r, .int .i64 k, .string s, .string v]] w fun e w' => e = .returned (.bool (kndB k s v)) ∧ Below w.heap.size w w' := by
  have c4 := fun w => specNameRight_any s w hs
  clear hs
  rcases kindCases k with hk | hk | rfl | ⟨h1, h2, h3, h4, h5, h6⟩
  · rw [knd_bare hk]
    by_cases hs : s = ByteArray.empty
    · subst hs
      by_cases hv : v = ByteArray.empty
      · subst hv
        rcases hk with rfl | rfl
        all_goals
          go_enter Tryd.func14, Tryd.ntmps14
          go_wp2_with fail
          refine (c1 _).mono ?_
          rintro e w1 ⟨rfl, rfl⟩
          go_wp2_with fail
          refine (c2 _).mono ?_
          rintro e w1 ⟨rfl, rfl⟩
          go_wp2_with fail
          refine (c3 _).mono ?_
          rintro e w1 ⟨rfl, rfl⟩
          go_wp2
          go_ret
          exact ⟨rfl, (Below.refl _ _).alloc (Nat.le_refl _) _⟩
      · rw [show (decide (ByteArray.empty = ByteArray.empty) && decide (v = ByteArray.empty)) = false by simp [hv]]
        have hvb := emp_beq hv
        have hvi := emp_is hv
        clear hv
        rcases hk with rfl | rfl
        all_goals
          go_enter Tryd.func14, Tryd.ntmps14
          go_wp2_with fail
          refine (c1 _).mono ?_
          rintro e w1 ⟨rfl, rfl⟩
          go_wp2_with fail
          refine (c2 _).mono ?_
          rintro e w1 ⟨rfl, rfl⟩
          go_wp2_with fail
          refine (c3 _).mono ?_
          rintro e w1 ⟨rfl, rfl⟩
          go_wp2
          go_ret
          exact ⟨rfl, (Below.refl _ _).alloc (Nat.le_refl _) _⟩
    · rw [show (decide (s = ByteArray.empty) && decide (v = ByteArray.empty)) = false by simp [hs]]
      have hsb := emp_beq hs
      have hsi := emp_is hs
      clear hs
      rcases hk with rfl | rfl
      all_goals
        go_enter Tryd.func14, Tryd.ntmps14
        go_wp2_with fail
        refine (c1 _).mono ?_
        rintro e w1 ⟨rfl, rfl⟩
        go_wp2_with fail
        refine (c2 _).mono ?_
        rintro e w1 ⟨rfl, rfl⟩
        go_wp2_with fail
        refine (c3 _).mono ?_
        rintro e w1 ⟨rfl, rfl⟩
        go_wp2
        go_ret
        exact ⟨rfl, (Below.refl _ _).alloc (Nat.le_refl _) _⟩
  · rw [knd_step hk]
    cases hn : nrB s with
    | false =>
      rw [hn] at c4
      clear hn
      rw [Bool.false_and]
      rcases hk with rfl | rfl | rfl
      all_goals
        go_enter Tryd.func14, Tryd.ntmps14
        go_wp2_with fail
        refine (c1 _).mono ?_
        rintro e w1 ⟨rfl, rfl⟩
        go_wp2_with fail
        refine (c2 _).mono ?_
        rintro e w1 ⟨rfl, rfl⟩
        go_wp2_with fail
        refine (c3 _).mono ?_
        rintro e w1 ⟨rfl, rfl⟩
        go_wp2_with fail
        refine (c4 _).mono ?_
        rintro e w1 ⟨rfl, rfl⟩
        go_wp2
        go_ret
        exact ⟨rfl, (Below.refl _ _).alloc (Nat.le_refl _) _⟩
    | true =>
      rw [hn] at c4
      clear hn
      rw [Bool.true_and]
      by_cases hv : v = ByteArray.empty
      · subst hv
        rcases hk with rfl | rfl | rfl
        all_goals
          go_enter Tryd.func14, Tryd.ntmps14
          go_wp2_with fail
          refine (c1 _).mono ?_
          rintro e w1 ⟨rfl, rfl⟩
          go_wp2_with fail
          refine (c2 _).mono ?_
          rintro e w1 ⟨rfl, rfl⟩
          go_wp2_with fail
          refine (c3 _).mono ?_
          rintro e w1 ⟨rfl, rfl⟩
          go_wp2_with fail
          refine (c4 _).mono ?_
          rintro e w1 ⟨rfl, rfl⟩
          go_wp2
          go_ret
          exact ⟨rfl, (Below.refl _ _).alloc (Nat.le_refl _) _⟩
      · rw [show decide (v = ByteArray.empty) = false by simp [hv]]
        have hvb := emp_beq hv
        have hvi := emp_is hv
        clear hv
        rcases hk with rfl | rfl | rfl
        all_goals
          go_enter Tryd.func14, Tryd.ntmps14
          go_wp2_with fail
          refine (c1 _).mono ?_
          rintro e w1 ⟨rfl, rfl⟩
          go_wp2_with fail
          refine (c2 _).mono ?_
          rintro e w1 ⟨rfl, rfl⟩
          go_wp2_with fail
          refine (c3 _).mono ?_
          rintro e w1 ⟨rfl, rfl⟩
          go_wp2_with fail
          refine (c4 _).mono ?_
          rintro e w1 ⟨rfl, rfl⟩
          go_wp2
          go_ret
          exact ⟨rfl, (Below.refl _ _).alloc (Nat.le_refl _) _⟩
  · rw [knd_set, show decide (v.size ≤ 40) = decide ((v.size : Int) ≤ 40) by simp only [decide_eq_decide]; omega]
    cases hn : nrB s with
    | false =>
      rw [hn] at c4
      clear hn
      rw [Bool.false_and]
      go_enter Tryd.func14, Tryd.ntmps14
      go_wp2_with fail
      refine (c1 _).mono ?_
      rintro e w1 ⟨rfl, rfl⟩
      go_wp2_with fail
      refine (c2 _).mono ?_
      rintro e w1 ⟨rfl, rfl⟩
      go_wp2_with fail
      refine (c3 _).mono ?_
      rintro e w1 ⟨rfl, rfl⟩
      go_wp2_with fail
      refine (c4 _).mono ?_
      rintro e w1 ⟨rfl, rfl⟩
      go_wp2
      go_ret
      exact ⟨rfl, (Below.refl _ _).alloc (Nat.le_refl _) _⟩
    | true =>
      rw [hn] at c4
      clear hn
      rw [Bool.true_and]
      go_enter Tryd.func14, Tryd.ntmps14
      go_wp2_with fail
      refine (c1 _).mono ?_
      rintro e w1 ⟨rfl, rfl⟩
      go_wp2_with fail
      refine (c2 _).mono ?_
      rintro e w1 ⟨rfl, rfl⟩
      go_wp2_with fail
      refine (c3 _).mono ?_
      rintro e w1 ⟨rfl, rfl⟩
      go_wp2_with fail
      refine (c4 _).mono ?_
      rintro e w1 ⟨rfl, rfl⟩
      go_wp2
      go_ret
      exact ⟨rfl, (Below.refl _ _).alloc (Nat.le_refl _) _⟩
  · rw [knd_out h1 h2 h3 h4 h5 h6]
    have e1 : (k == 1) = false := by simpa using h1
    have e2 : (k == 2) = false := by simpa using h2
    have e3 : (k == 3) = false := by simpa using h3
    have e4 : (k == 4) = false := by simpa using h4
    have e5 : (k == 5) = false := by simpa using h5
    have e6 : (k == 6) = false := by simpa using h6
    clear h1 h2 h3 h4 h5 h6
    go_enter Tryd.func14, Tryd.ntmps14
    go_wp2_with fail
    refine (c1 _).mono ?_
    rintro e w1 ⟨rfl, rfl⟩
    go_wp2_with fail
    refine (c2 _).mono ?_
    rintro e w1 ⟨rfl, rfl⟩
    go_wp2_with fail
    refine (c3 _).mono ?_
    rintro e w1 ⟨rfl, rfl⟩
    go_wp2
    go_ret
    exact ⟨rfl, (Below.refl _ _).alloc (Nat.le_refl _) _⟩

set_option maxRecDepth 100000 in
set_option maxHeartbeats 1000000 in
theorem specEventRight_any (q t r k : Int) (s v : ByteArray) (w : World) (hs : s.size ≤ maxLen) :
    Calls Tryd.prog 14 #[.agg #[.int .i64 q, .int .i64 t, .int .i64 r, .int .i64 k, .string s, .string v]] w fun e w' => e = .returned (.bool (evB ⟨q, t, r, k, s, v⟩)) ∧ Below w.heap.size w w' := by
  have c1 : ∀ w, Calls Tryd.prog 36 #[.int .i64 q, .int .i64 1, .int .i64 1000000] w fun e w' => e = .returned (.bool (numB q)) ∧ w' = w := fun w => l02Is_any q 1 1000000 w
  have c2 : ∀ w, Calls Tryd.prog 36 #[.int .i64 r, .int .i64 1, .int .i64 1000000] w fun e w' => e = .returned (.bool (numB r)) ∧ w' = w := fun w => l02Is_any r 1 1000000 w
  have c3 := fun w => l02Time_any t w
  unfold evB
  generalize numB q = B1 at *
  generalize timB t = B2 at *
  generalize numB r = B3 at *
  cases B1 with
  | false =>
    clear hs
    go_enter Tryd.func14, Tryd.ntmps14
    go_wp2_with fail
    refine (c1 _).mono ?_
    rintro e w1 ⟨rfl, rfl⟩
    go_wp2
    go_ret
    exact ⟨rfl, (Below.refl _ _).alloc (Nat.le_refl _) _⟩
  | true =>
    cases B3 with
    | false =>
      clear hs
      go_enter Tryd.func14, Tryd.ntmps14
      go_wp2_with fail
      refine (c1 _).mono ?_
      rintro e w1 ⟨rfl, rfl⟩
      go_wp2_with fail
      refine (c2 _).mono ?_
      rintro e w1 ⟨rfl, rfl⟩
      go_wp2
      go_ret
      exact ⟨ret_bool (by simp), (Below.refl _ _).alloc (Nat.le_refl _) _⟩
    | true =>
      cases B2 with
      | false =>
        clear hs
        go_enter Tryd.func14, Tryd.ntmps14
        go_wp2_with fail
        refine (c1 _).mono ?_
        rintro e w1 ⟨rfl, rfl⟩
        go_wp2_with fail
        refine (c2 _).mono ?_
        rintro e w1 ⟨rfl, rfl⟩
        go_wp2_with fail
        refine (c3 _).mono ?_
        rintro e w1 ⟨rfl, rfl⟩
        go_wp2
        go_ret
        exact ⟨ret_bool (by simp), (Below.refl _ _).alloc (Nat.le_refl _) _⟩
      | true =>
        simp only [Bool.true_and]
        exact specEventRight_tail q t r k s v w hs c1 c2 c3
end Go.Proofs.YticnffakngpkfaaDoor
