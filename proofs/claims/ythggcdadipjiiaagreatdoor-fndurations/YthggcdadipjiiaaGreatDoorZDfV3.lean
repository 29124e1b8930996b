/-
  Texts put together: DfV, EvI, EvSp.
-/
import Derived.Test.YthggcdadipjiiaaGreatDoorZStrs3
import Derived.Test.YthggcdadipjiiaaGreatDoorZRiseM4
import Derived.Test.YthggcdadipjiiaaGreatDoorZSpOut6
import Derived.Laws.StructEq
/-
  What a Def holds. Of no function.
-/
namespace Go.Proofs.YthggcdadipjiiaaGreatDoor
open Go.RowKit

abbrev defV (a1 a2 : Option Addr) (k1 k2 : Nat) (ss : List ByteArray) (fs : List Pr) : Value := .agg #[.slice a1 ss.length k1, .slice a2 fs.length k2]
/-- What a Def's rows, a State's rows hold. -/
structure DefSl (w : World) (a1 a2 : Option Addr) (k1 k2 : Nat) (ss : List ByteArray) (fs : List Pr) : Prop where
  h1 : StrSl w (.slice a1 ss.length k1) ss
  h2 : PrSl w (.slice a2 fs.length k2) fs
  l1 : ∀ g o, a1 = some ⟨g, o, none⟩ → g < w.heap.size
  l2 : ∀ g o, a2 = some ⟨g, o, none⟩ → g < w.heap.size
theorem DefSl.stay {w w' : World} {a1 a2 : Option Addr} {k1 k2 : Nat} {ss : List ByteArray} {fs : List Pr} (h : DefSl w a1 a2 k1 k2 ss fs) (hb : Below w.heap.size w w') : DefSl w' a1 a2 k1 k2 ss fs := ⟨h.h1.stay hb (Nat.le_refl _), h.h2.stay hb (Nat.le_refl _), fun g o e => Nat.lt_of_lt_of_le (h.l1 g o e) hb.size, fun g o e => Nat.lt_of_lt_of_le (h.l2 g o e) hb.size⟩
end Go.Proofs.YthggcdadipjiiaaGreatDoor

/-
  Events: what impl.kindRight and impl.EventRight answer, for every event: contracts over the seat's program.
-/
namespace Go.Proofs.YthggcdadipjiiaaGreatDoor
open Go.RowKit

theorem emp_beq {s : ByteArray} (h : ¬ s = ByteArray.empty) : ¬ s.toList = [] := by
  intro e
  rw [ByteArray.toList_eq] at e
  exact h (ByteArray.ext (Array.toList_inj.1 e))
theorem knd_out {k : Int} {s v : ByteArray} (h1 : ¬ k = 1) (h2 : ¬ k = 2) (h3 : ¬ k = 3) (h4 : ¬ k = 4) (h5 : ¬ k = 5) (h6 : ¬ k = 6) : kndB k s v = false := by simp [kndB, h1, h2, h3, h4, h5, h6]
theorem knd_bare {k : Int} {s v : ByteArray} (hk : k = 1 ∨ k = 6) : kndB k s v = (decide (s = ByteArray.empty) && decide (v = ByteArray.empty)) := by
  rcases hk with rfl | rfl <;> simp [kndB]
theorem knd_step {k : Int} {s v : ByteArray} (hk : k = 2 ∨ k = 3 ∨ k = 5) : kndB k s v = (nrB s && decide (v = ByteArray.empty)) := by
  rcases hk with rfl | rfl | rfl <;> simp [kndB]
theorem knd_set {s v : ByteArray} : kndB 4 s v = (nrB s && decide (v.size ≤ 40)) := by simp [kndB]

set_option maxRecDepth 100000 in
set_option maxHeartbeats 1000000 in
theorem kindRight_bare (q t r k : Int) (s v : ByteArray) (w : World) (hk : k = 1 ∨ k = 6) :
    Calls Tryz.prog 152 #[.agg #[.int .i64 q, .int .i64 t, .int .i64 r, .int .i64 k, .string s, .string v]] w fun e w' => e = .returned (.bool (kndB k s v)) ∧ Below w.heap.size w w' := by
  rw [knd_bare hk]
  by_cases hs : s = ByteArray.empty
  · subst hs
    by_cases hv : v = ByteArray.empty
    · subst hv
      rcases hk with rfl | rfl
      all_goals
        go_enter Tryz.func152, Tryz.ntmps152
        go_wp2
        go_ret
        exact ⟨rfl, below2 _ _ _⟩
    · rw [show (decide (ByteArray.empty = ByteArray.empty) && decide (v = ByteArray.empty)) = false by simp [hv]]
      have hvb := emp_beq hv
      clear hv
      rcases hk with rfl | rfl
      all_goals
        go_enter Tryz.func152, Tryz.ntmps152
        go_wp2
        go_ret
        exact ⟨rfl, below2 _ _ _⟩
  · rw [show (decide (s = ByteArray.empty) && decide (v = ByteArray.empty)) = false by simp [hs]]
    have hsb := emp_beq hs
    clear hs
    rcases hk with rfl | rfl
    all_goals
      go_enter Tryz.func152, Tryz.ntmps152
      go_wp2
      go_ret
      exact ⟨rfl, below2 _ _ _⟩

set_option maxRecDepth 100000 in
set_option maxHeartbeats 1000000 in
theorem kindRight_step (q t r k : Int) (s v : ByteArray) (w : World) (hs : s.size ≤ maxLen) (hk : k = 2 ∨ k = 3 ∨ k = 5) :
    Calls Tryz.prog 152 #[.agg #[.int .i64 q, .int .i64 t, .int .i64 r, .int .i64 k, .string s, .string v]] w fun e w' => e = .returned (.bool (kndB k s v)) ∧ Below w.heap.size w w' := by
  rw [knd_step hk]
  have c1 := fun w => implNameRight_any s w hs
  clear hs
  by_cases hv : v = ByteArray.empty
  · subst hv
    rw [show (nrB s && decide (ByteArray.empty = ByteArray.empty)) = nrB s by simp]
    generalize nrB s = B at *
    rcases hk with rfl | rfl | rfl
    all_goals
      go_enter Tryz.func152, Tryz.ntmps152
      go_wp2_with (go_at_call 101; refine (c1 _).mono ?_; rintro e w1 ⟨rfl, rfl⟩)
      go_ret
      exact ⟨rfl, below2 _ _ _⟩
  · rw [show (nrB s && decide (v = ByteArray.empty)) = false by simp [hv]]
    have hvb := emp_beq hv
    clear hv
    rcases hk with rfl | rfl | rfl
    all_goals
      go_enter Tryz.func152, Tryz.ntmps152
      go_wp2
      go_ret
      exact ⟨rfl, below2 _ _ _⟩

set_option maxRecDepth 100000 in
set_option maxHeartbeats 1000000 in
theorem kindRight_set (q t r : Int) (s v : ByteArray) (w : World) (hs : s.size ≤ maxLen) :
    Calls Tryz.prog 152 #[.agg #[.int .i64 q, .int .i64 t, .int .i64 r, .int .i64 4, .string s, .string v]] w fun e w' => e = .returned (.bool (kndB 4 s v)) ∧ Below w.heap.size w w' := by
  rw [knd_set]
  have c1 := fun w => implNameRight_any s w hs
  clear hs
  cases hn : nrB s with
  | true =>
    rw [hn] at c1
    clear hn
    rw [Bool.true_and, show decide (v.size ≤ 40) = decide ((v.size : Int) ≤ 40) by simp only [decide_eq_decide]; omega]
    go_enter Tryz.func152, Tryz.ntmps152
    go_wp2_with (go_at_call 101; refine (c1 _).mono ?_; rintro e w1 ⟨rfl, rfl⟩)
    go_ret
    exact ⟨rfl, below2 _ _ _⟩
  | false =>
    rw [hn] at c1
    clear hn
    go_enter Tryz.func152, Tryz.ntmps152
    go_wp2_with (go_at_call 101; refine (c1 _).mono ?_; rintro e w1 ⟨rfl, rfl⟩)
    go_ret
    exact ⟨rfl, below2 _ _ _⟩

set_option maxRecDepth 100000 in
set_option maxHeartbeats 1000000 in
theorem kindRight_no (q t r k : Int) (s v : ByteArray) (w : World) (h1 : (k == 1) = false) (h2 : (k == 2) = false) (h3 : (k == 3) = false) (h4 : (k == 4) = false) (h5 : (k == 5) = false) (h6 : (k == 6) = false) :
    Calls Tryz.prog 152 #[.agg #[.int .i64 q, .int .i64 t, .int .i64 r, .int .i64 k, .string s, .string v]] w fun e w' => e = .returned (.bool false) ∧ Below w.heap.size w w' := by
  go_enter Tryz.func152, Tryz.ntmps152
  go_wp2
  go_ret
  exact ⟨rfl, below2 _ _ _⟩

theorem kindCases (k : Int) : (k = 1 ∨ k = 6) ∨ (k = 2 ∨ k = 3 ∨ k = 5) ∨ k = 4 ∨ (¬ k = 1 ∧ ¬ k = 2 ∧ ¬ k = 3 ∧ ¬ k = 4 ∧ ¬ k = 5 ∧ ¬ k = 6) := by omega
theorem kindRight_any (q t r k : Int) (s v : ByteArray) (w : World) (hs : s.size ≤ maxLen) :
    Calls Tryz.prog 152 #[.agg #[.int .i64 q, .int .i64 t, .int .i64 r, .int .i64 k, .string s, .string v]] w fun e w' => e = .returned (.bool (kndB k s v)) ∧ Below w.heap.size w w' := by
  rcases kindCases k with h | h | rfl | ⟨h1, h2, h3, h4, h5, h6⟩
  · exact kindRight_bare q t r k s v w h
  · exact kindRight_step q t r k s v w hs h
  · exact kindRight_set q t r s v w hs
  · rw [knd_out h1 h2 h3 h4 h5 h6]
    exact kindRight_no q t r k s v w (by simpa using h1) (by simpa using h2) (by simpa using h3) (by simpa using h4) (by simpa using h5) (by simpa using h6)

set_option maxRecDepth 100000 in
set_option maxHeartbeats 1000000 in
theorem implEventRight_any (q t r k : Int) (s v : ByteArray) (w : World) (hs : s.size ≤ maxLen) :
    Calls Tryz.prog 134 #[.agg #[.int .i64 q, .int .i64 t, .int .i64 r, .int .i64 k, .string s, .string v]] w fun e w' => e = .returned (.bool (evB ⟨q, t, r, k, s, v⟩)) ∧ Below w.heap.size w w' := by
  have c1 := fun w => isNumber_any q w
  have c2 := fun w => isTime_any t w
  have c3 := fun w => isNumber_any r w
  have c4 := fun w => kindRight_any q t r k s v w hs
  unfold evB
  generalize numB q = B1 at *
  generalize timB t = B2 at *
  generalize numB r = B3 at *
  generalize kndB k s v = B4 at *
  clear hs
  cases B1 with
  | false =>
    go_enter Tryz.func134, Tryz.ntmps134
    go_wp2_with fail
    refine (c1 _).mono ?_
    rintro e w1 ⟨rfl, rfl⟩
    go_wp2
    go_ret
    exact ⟨rfl, (Below.refl _ _).alloc (Nat.le_refl _) _⟩
  | true =>
    cases B2 with
    | false =>
      go_enter Tryz.func134, Tryz.ntmps134
      go_wp2_with fail
      refine (c1 _).mono ?_
      rintro e w1 ⟨rfl, rfl⟩
      go_wp2_with fail
      refine (c2 _).mono ?_
      rintro e w1 ⟨rfl, rfl⟩
      go_wp2
      go_ret
      exact ⟨ret_bool (by simp), (Below.refl _ _).alloc (Nat.le_refl _) _⟩
    | true =>
      cases B3 with
      | false =>
        go_enter Tryz.func134, Tryz.ntmps134
        go_wp2_with fail
        refine (c1 _).mono ?_
        rintro e w1 ⟨rfl, rfl⟩
        go_wp2_with fail
        refine (c2 _).mono ?_
        rintro e w1 ⟨rfl, rfl⟩
        go_wp2_with fail
        refine (c3 _).mono ?_
        rintro e w1 ⟨rfl, rfl⟩
        go_wp2
        go_ret
        exact ⟨rfl, (Below.refl _ _).alloc (Nat.le_refl _) _⟩
      | true =>
        go_enter Tryz.func134, Tryz.ntmps134
        go_wp2_with fail
        refine (c1 _).mono ?_
        rintro e w1 ⟨rfl, rfl⟩
        go_wp2_with fail
        refine (c2 _).mono ?_
        rintro e w1 ⟨rfl, rfl⟩
        go_wp2_with fail
        refine (c3 _).mono ?_
        rintro e w1 ⟨rfl, rfl⟩
        go_wp2_with fail
        refine (c4 _).mono ?_
        rintro e w2 ⟨rfl, hb⟩
        go_wp2
        go_ret
        exact ⟨rfl, ((Below.refl w.heap.size w).alloc (Nat.le_refl _) _).trans (hb.mono (B' := w.heap.size) (by simp))⟩
end Go.Proofs.YthggcdadipjiiaaGreatDoor

/-
  Events: what spec.EventRight answers, for every event: a contract over the seat's program.
-/
namespace Go.Proofs.YthggcdadipjiiaaGreatDoor
open Go.RowKit

theorem emp_is {s : ByteArray} (h : ¬ s = ByteArray.empty) : s.toList.isEmpty = false := by
  have := emp_beq h
  cases hl : s.toList with
  | nil => exact absurd hl this
  | cons a l => rfl
set_option maxRecDepth 100000 in
set_option maxHeartbeats 1000000 in
theorem specEventRight_tail (q t r k : Int) (s v : ByteArray) (w : World) (hs : s.size ≤ maxLen)
    (c1 : ∀ w, Calls Tryz.prog 81 #[.int .i64 q, .int .i64 1, .int .i64 1000000] w fun e w' => e = .returned (.bool true) ∧ w' = w)
    (c2 : ∀ w, Calls Tryz.prog 81 #[.int .i64 r, .int .i64 1, .int .i64 1000000] w fun e w' => e = .returned (.bool true) ∧ w' = w)
    (c3 : ∀ w, Calls Tryz.prog 82 #[.int .i64 t] w fun e w' => e = .returned (.bool true) ∧ w' = w) :
    Calls Tryz.prog 51 #[.agg #[.int .i64 q, .int .i64 t, .int .i64 r, .int .i64 k, .string s, .string v]] w fun e w' => e = .returned (.bool (kndB k s v)) ∧ Below w.heap.size w w' := by
  have c4 := fun w => specNameRight_any s w hs
  clear hs
  rcases kindCases k with hk | hk | rfl | ⟨h1, h2, h3, h4, h5, h6⟩
  · rw [knd_bare hk]
    by_cases hs : s = ByteArray.empty
    · subst hs
      by_cases hv : v = ByteArray.empty
      · subst hv
        rcases hk with rfl | rfl
        all_goals
          go_enter Tryz.func51, Tryz.ntmps51
          go_wp2_with fail
          refine (c1 _).mono ?_
          rintro e w1 ⟨rfl, rfl⟩
          go_wp2_with fail
          refine (c2 _).mono ?_
          rintro e w1 ⟨rfl, rfl⟩
          go_wp2_with fail
          refine (c3 _).mono ?_
          rintro e w1 ⟨rfl, rfl⟩
          go_wp2
          go_ret
          exact ⟨rfl, (Below.refl _ _).alloc (Nat.le_refl _) _⟩
      · rw [show (decide (ByteArray.empty = ByteArray.empty) && decide (v = ByteArray.empty)) = false by simp [hv]]
        have hvb := emp_beq hv
        have hvi := emp_is hv
        clear hv
        rcases hk with rfl | rfl
        all_goals
          go_enter Tryz.func51, Tryz.ntmps51
          go_wp2_with fail
          refine (c1 _).mono ?_
          rintro e w1 ⟨rfl, rfl⟩
          go_wp2_with fail
          refine (c2 _).mono ?_
          rintro e w1 ⟨rfl, rfl⟩
          go_wp2_with fail
          refine (c3 _).mono ?_
          rintro e w1 ⟨rfl, rfl⟩
          go_wp2
          go_ret
          exact ⟨rfl, (Below.refl _ _).alloc (Nat.le_refl _) _⟩
    · rw [show (decide (s = ByteArray.empty) && decide (v = ByteArray.empty)) = false by simp [hs]]
      have hsb := emp_beq hs
      have hsi := emp_is hs
      clear hs
      rcases hk with rfl | rfl
      all_goals
        go_enter Tryz.func51, Tryz.ntmps51
        go_wp2_with fail
        refine (c1 _).mono ?_
        rintro e w1 ⟨rfl, rfl⟩
        go_wp2_with fail
        refine (c2 _).mono ?_
        rintro e w1 ⟨rfl, rfl⟩
        go_wp2_with fail
        refine (c3 _).mono ?_
        rintro e w1 ⟨rfl, rfl⟩
        go_wp2
        go_ret
        exact ⟨rfl, (Below.refl _ _).alloc (Nat.le_refl _) _⟩
  · rw [knd_step hk]
    cases hn : nrB s with
    | false =>
      rw [hn] at c4
      clear hn
      rw [Bool.false_and]
      rcases hk with rfl | rfl | rfl
      all_goals
        go_enter Tryz.func51, Tryz.ntmps51
        go_wp2_with fail
        refine (c1 _).mono ?_
        rintro e w1 ⟨rfl, rfl⟩
        go_wp2_with fail
        refine (c2 _).mono ?_
        rintro e w1 ⟨rfl, rfl⟩
        go_wp2_with fail
        refine (c3 _).mono ?_
        rintro e w1 ⟨rfl, rfl⟩
        go_wp2_with fail
        refine (c4 _).mono ?_
        rintro e w1 ⟨rfl, rfl⟩
        go_wp2
        go_ret
        exact ⟨rfl, (Below.refl _ _).alloc (Nat.le_refl _) _⟩
    | true =>
      rw [hn] at c4
      clear hn
      rw [Bool.true_and]
      by_cases hv : v = ByteArray.empty
      · subst hv
        rcases hk with rfl | rfl | rfl
        all_goals
          go_enter Tryz.func51, Tryz.ntmps51
          go_wp2_with fail
          refine (c1 _).mono ?_
          rintro e w1 ⟨rfl, rfl⟩
          go_wp2_with fail
          refine (c2 _).mono ?_
          rintro e w1 ⟨rfl, rfl⟩
          go_wp2_with fail
          refine (c3 _).mono ?_
          rintro e w1 ⟨rfl, rfl⟩
          go_wp2_with fail
          refine (c4 _).mono ?_
          rintro e w1 ⟨rfl, rfl⟩
          go_wp2
          go_ret
          exact ⟨rfl, (Below.refl _ _).alloc (Nat.le_refl _) _⟩
      · rw [show decide (v = ByteArray.empty) = false by simp [hv]]
        have hvb := emp_beq hv
        have hvi := emp_is hv
        clear hv
        rcases hk with rfl | rfl | rfl
        all_goals
          go_enter Tryz.func51, Tryz.ntmps51
          go_wp2_with fail
          refine (c1 _).mono ?_
          rintro e w1 ⟨rfl, rfl⟩
          go_wp2_with fail
          refine (c2 _).mono ?_
          rintro e w1 ⟨rfl, rfl⟩
          go_wp2_with fail
          refine (c3 _).mono ?_
          rintro e w1 ⟨rfl, rfl⟩
          go_wp2_with fail
          refine (c4 _).mono ?_
          rintro e w1 ⟨rfl, rfl⟩
          go_wp2
          go_ret
          exact ⟨rfl, (Below.refl _ _).alloc (Nat.le_refl _) _⟩
  · rw [knd_set, show decide (v.size ≤ 40) = decide ((v.size : Int) ≤ 40) by simp only [decide_eq_decide]; omega]
    cases hn : nrB s with
    | false =>
      rw [hn] at c4
      clear hn
      rw [Bool.false_and]
      go_enter Tryz.func51, Tryz.ntmps51
      go_wp2_with fail
      refine (c1 _).mono ?_
      rintro e w1 ⟨rfl, rfl⟩
      go_wp2_with fail
      refine (c2 _).mono ?_
      rintro e w1 ⟨rfl, rfl⟩
      go_wp2_with fail
      refine (c3 _).mono ?_
      rintro e w1 ⟨rfl, rfl⟩
      go_wp2_with fail
      refine (c4 _).mono ?_
      rintro e w1 ⟨rfl, rfl⟩
      go_wp2
      go_ret
      exact ⟨rfl, (Below.refl _ _).alloc (Nat.le_refl _) _⟩
    | true =>
      rw [hn] at c4
      clear hn
      rw [Bool.true_and]
      go_enter Tryz.func51, Tryz.ntmps51
      go_wp2_with fail
      refine (c1 _).mono ?_
      rintro e w1 ⟨rfl, rfl⟩
      go_wp2_with fail
      refine (c2 _).mono ?_
      rintro e w1 ⟨rfl, rfl⟩
      go_wp2_with fail
      refine (c3 _).mono ?_
      rintro e w1 ⟨rfl, rfl⟩
      go_wp2_with fail
      refine (c4 _).mono ?_
      rintro e w1 ⟨rfl, rfl⟩
      go_wp2
      go_ret
      exact ⟨rfl, (Below.refl _ _).alloc (Nat.le_refl _) _⟩
  · rw [knd_out h1 h2 h3 h4 h5 h6]
    have e1 : (k == 1) = false := by simpa using h1
    have e2 : (k == 2) = false := by simpa using h2
    have e3 : (k == 3) = false := by simpa using h3
    have e4 : (k == 4) = false := by simpa using h4
    have e5 : (k == 5) = false := by simpa using h5
    have e6 : (k == 6) = false := by simpa using h6
    clear h1 h2 h3 h4 h5 h6
    go_enter Tryz.func51, Tryz.ntmps51
    go_wp2_with fail
    refine (c1 _).mono ?_
    rintro e w1 ⟨rfl, rfl⟩
    go_wp2_with fail
    refine (c2 _).mono ?_
    rintro e w1 ⟨rfl, rfl⟩
    go_wp2_with fail
    refine (c3 _).mono ?_
    rintro e w1 ⟨rfl, rfl⟩
    go_wp2
    go_ret
    exact ⟨rfl, (Below.refl _ _).alloc (Nat.le_refl _) _⟩

set_option maxRecDepth 100000 in
set_option maxHeartbeats 1000000 in
theorem specEventRight_any (q t r k : Int) (s v : ByteArray) (w : World) (hs : s.size ≤ maxLen) :
    Calls Tryz.prog 51 #[.agg #[.int .i64 q, .int .i64 t, .int .i64 r, .int .i64 k, .string s, .string v]] w fun e w' => e = .returned (.bool (evB ⟨q, t, r, k, s, v⟩)) ∧ Below w.heap.size w w' := by
  have c1 : ∀ w, Calls Tryz.prog 81 #[.int .i64 q, .int .i64 1, .int .i64 1000000] w fun e w' => e = .returned (.bool (numB q)) ∧ w' = w := fun w => l02Is_any q 1 1000000 w
  have c2 : ∀ w, Calls Tryz.prog 81 #[.int .i64 r, .int .i64 1, .int .i64 1000000] w fun e w' => e = .returned (.bool (numB r)) ∧ w' = w := fun w => l02Is_any r 1 1000000 w
  have c3 := fun w => l02Time_any t w
  unfold evB
  generalize numB q = B1 at *
  generalize timB t = B2 at *
  generalize numB r = B3 at *
  cases B1 with
  | false =>
    clear hs
    go_enter Tryz.func51, Tryz.ntmps51
    go_wp2_with fail
    refine (c1 _).mono ?_
    rintro e w1 ⟨rfl, rfl⟩
    go_wp2
    go_ret
    exact ⟨rfl, (Below.refl _ _).alloc (Nat.le_refl _) _⟩
  | true =>
    cases B3 with
    | false =>
      clear hs
      go_enter Tryz.func51, Tryz.ntmps51
      go_wp2_with fail
      refine (c1 _).mono ?_
      rintro e w1 ⟨rfl, rfl⟩
      go_wp2_with fail
      refine (c2 _).mono ?_
      rintro e w1 ⟨rfl, rfl⟩
      go_wp2
      go_ret
      exact ⟨ret_bool (by simp), (Below.refl _ _).alloc (Nat.le_refl _) _⟩
    | true =>
      cases B2 with
      | false =>
        clear hs
        go_enter Tryz.func51, Tryz.ntmps51
        go_wp2_with fail
        refine (c1 _).mono ?_
        rintro e w1 ⟨rfl, rfl⟩
        go_wp2_with fail
        refine (c2 _).mono ?_
        rintro e w1 ⟨rfl, rfl⟩
        go_wp2_with fail
        refine (c3 _).mono ?_
        rintro e w1 ⟨rfl, rfl⟩
        go_wp2
        go_ret
        exact ⟨ret_bool (by simp), (Below.refl _ _).alloc (Nat.le_refl _) _⟩
      | true =>
        simp only [Bool.true_and]
        exact specEventRight_tail q t r k s v w hs c1 c2 c3
end Go.Proofs.YthggcdadipjiiaaGreatDoor
