/-
  Texts put together: QuK, ImQ, KdS, Ev, KdSp.
-/
import Derived.Test.YtimlnbfalnkmhaaGreatDoorZQuI3
import Derived.Test.YtimlnbfalnkmhaaGreatDoorZQpF4
import Derived.Test.YtimlnbfalnkmhaaGreatDoorZCdRow5
import Derived.Deep.CutBlock
import Derived.Test.YtimlnbfalnkmhaaGreatDoorZQrM
import Derived.Test.YtimlnbfalnkmhaaGreatDoorZKd2
/-
  Queries: what impl.kindNamed, isKindName, (wordCond).mayAsk, condOf answer: contracts over the seat's program.
-/
namespace Go.Proofs.YtimlnbfalnkmhaaGreatDoor
open Go.RowKit

/-- The kind of that name, 0 of others. -/
def kNum (t : ByteArray) : Int := if kStart = t then 1 else if kEnter = t then 2 else if kLeave = t then 3 else if kSet = t then 4 else if kFault = t then 5 else if kEnd = t then 6 else 0
theorem kNum_is (t : ByteArray) : (kNum t != 0) = isK t := by
  unfold kNum isK
  repeat' split
  all_goals first
    | (subst_vars; decide)
    | simp_all [eq_comm]
theorem kdT_kinds : kdT 1 = kStart ∧ kdT 2 = kEnter ∧ kdT 3 = kLeave ∧ kdT 4 = kSet ∧ kdT 5 = kFault ∧ kdT 6 = kEnd := by decide
/-- Of none of the first k kinds it is the name. -/
def noK (t : ByteArray) (k : Nat) : Prop := ∀ j : Nat, 1 ≤ j → j ≤ k → kdT j ≠ t
theorem kNum_at {t : ByteArray} {k : Nat} (h1 : 1 ≤ k) (h6 : k ≤ 6) (h : kdT k = t) (hn : noK t (k - 1)) : kNum t = k := by
  have hh := kdT_kinds
  have n1 := hn 1
  have n2 := hn 2
  have n3 := hn 3
  have n4 := hn 4
  have n5 := hn 5
  obtain ⟨a1, a2, a3, a4, a5, a6⟩ := hh
  have : k = 1 ∨ k = 2 ∨ k = 3 ∨ k = 4 ∨ k = 5 ∨ k = 6 := by omega
  unfold kNum
  rcases this with rfl | rfl | rfl | rfl | rfl | rfl <;> simp_all
theorem kNum_none {t : ByteArray} (hn : noK t 6) : kNum t = 0 := by
  have hh := kdT_kinds
  have n1 := hn 1
  have n2 := hn 2
  have n3 := hn 3
  have n4 := hn 4
  have n5 := hn 5
  have n6 := hn 6
  obtain ⟨a1, a2, a3, a4, a5, a6⟩ := hh
  unfold kNum
  simp_all
set_option maxRecDepth 100000 in
theorem kindNamed_any (t : ByteArray) (w : World) (hK : KNames w) :
    Calls Tryz.prog 193 #[.string t] w fun e w' => e = .returned (.int .i64 (kNum t)) ∧ w' = w := by
  have HK := hid hK
  clear hK
  go_enter Tryz.func193, Tryz.ntmps193
  go_wp2
  go_loop [3] (fun i => ∃ k : Nat, i = .int .i64 ((k : Int) + 1) ∧ k ≤ 6 ∧ Hid (noK t k)) (fun i => 7 - (intOf i).toNat)
  case atStart => exact ⟨0, rfl, by omega, hid (fun j h1 h2 => by omega)⟩
  case round =>
    obtain ⟨k, rfl, hk, hn⟩ := hrel
    by_cases hlt : k < 6
    · have cK := fun w (h : Hid (KNames w)) => implKindText_any ((k : Int) + 1) w h.out
      have hle : ((k : Int) + 1 ≤ 6) := by omega
      by_cases he : kdT ((k : Int) + 1) = t
      · have hv : kNum t = (k : Int) + 1 := kNum_at (k := k + 1) (by omega) (by omega) (by push_cast; exact he) (by simpa using hn.out)
        have hq := str_eqs he
        generalize kdT ((k : Int) + 1) = S at *
        go_wp2_with (go_at_call 150; refine (cK _ HK).mono ?_; rintro e w1 ⟨rfl, rfl⟩)
        go_ret
        exact ⟨ret_int hv.symm, rfl⟩
      · have hq := str_ne he
        have hn' : Hid (noK t (k + 1)) := hid (fun j h1 h2 => by
          by_cases ej : j = k + 1
          · subst ej; exact_mod_cast he
          · exact hn.out j h1 (by omega))
        generalize kdT ((k : Int) + 1) = S at *
        go_wp2_with (go_at_call 150; refine (cK _ HK).mono ?_; rintro e w1 ⟨rfl, rfl⟩)
        go_round
        case rel => exact ⟨k + 1, by push_cast; rfl, by omega, hn'⟩
        case measure => simp [intOf]; omega
    · obtain rfl : k = 6 := by omega
      go_wp2
      go_ret
      exact ⟨ret_int (kNum_none hn.out).symm, rfl⟩
theorem isKindName_any (t : ByteArray) (w : World) (hK : KNames w) :
    Calls Tryz.prog 179 #[.string t] w fun e w' => e = .returned (.bool (isK t)) ∧ w' = w := by
  rw [← kNum_is]
  have c := kindNamed_any t w hK
  generalize kNum t = n at *
  go_enter Tryz.func179, Tryz.ntmps179
  go_wp2_with (go_at_call 193; refine c.mono ?_; rintro e w1 ⟨rfl, rfl⟩)
  go_ret
  exact ⟨rfl, rfl⟩
theorem mayAsk_any (f o v : ByteArray) (n : Int) (t : ByteArray) (w : World) (hK : KNames w) (hs : t.size ≤ maxLen) :
    Calls Tryz.prog 160 #[.agg #[.string f, .string o, .string v, .int .i64 n], .string t] w fun e w' => e = .returned (.bool (wrdR f t)) ∧ Below w.heap.size w w' := by
  have e0 : (f.toList == [107, 105, 110, 100]) = decide (f = qKind) := lit_b f _ _ rfl
  have cK : ∀ W, Below w.heap.size w W → Calls Tryz.prog 179 #[.string t] W fun e w' => e = .returned (.bool (isK t)) ∧ w' = W := fun W hb => isKindName_any t W (hK.below hb (Nat.le_refl _))
  have cN : ∀ W, Calls Tryz.prog 180 #[.string t] W fun e w' => e = .returned (.bool (nrB t)) ∧ w' = W := fun W => implNameRight_any t W hs
  clear hK hs
  unfold wrdR
  by_cases h : f = qKind
  · rw [decide_eq_true h] at e0
    rw [if_pos h]
    clear cN h
    generalize isK t = b at *
    go_enter Tryz.func160, Tryz.ntmps160
    go_wp2_with (go_at_call 179; refine (cK _ ((Below.refl _ _).alloc (Nat.le_refl _) _)).mono ?_; rintro e w1 ⟨rfl, rfl⟩)
    go_ret
    exact ⟨rfl, (Below.refl _ _).alloc (Nat.le_refl _) _⟩
  · rw [decide_eq_false h] at e0
    rw [if_neg h]
    clear cK h
    generalize nrB t = b at *
    go_enter Tryz.func160, Tryz.ntmps160
    go_wp2_with (go_at_call 180; refine (cN _).mono ?_; rintro e w1 ⟨rfl, rfl⟩)
    go_ret
    exact ⟨rfl, (Below.refl _ _).alloc (Nat.le_refl _) _⟩
theorem condOf_any (f : ByteArray) (w : World) :
    Calls Tryz.prog 113 #[.agg #[.string f, .string ⟨#[]⟩, .string ⟨#[]⟩, .int .i64 0]] w fun e w' => e = .returned (.iface (if numF f then 184 else 185) (.agg #[.string f, .string ⟨#[]⟩, .string ⟨#[]⟩, .int .i64 0])) ∧ Below w.heap.size w w' := by
  have c1 := fun w => isNumberField_any f w
  generalize numF f = b at *
  cases b
  all_goals (
    go_enter Tryz.func113, Tryz.ntmps113
    go_wp2_with (go_at_call 89; refine (c1 _).mono ?_; rintro e w1 ⟨rfl, rfl⟩)
    go_ret
    exact ⟨rfl, (Below.refl _ _).alloc (Nat.le_refl _) _⟩)
end Go.Proofs.YtimlnbfalnkmhaaGreatDoor

/-
  Queries: what impl.condOf, (numberCond).right, (wordCond).right answer: contracts over the seat's program.
-/
namespace Go.Proofs.YtimlnbfalnkmhaaGreatDoor
open Go.RowKit
set_option linter.unusedVariables false

abbrev cdA (c : Cd) : Value := .agg #[.string c.fld, .string c.op, .string c.wrd, .int .i64 c.n]
abbrev cdT (c : Cd) : TypeId := if numF c.fld then 184 else 185
theorem condOf_whole (c : Cd) (w : World) :
    Calls Tryz.prog 113 #[cdA c] w fun e w' => e = .returned (.iface (cdT c) (cdA c)) ∧ Below w.heap.size w w' := by
  obtain ⟨f, o, t, n⟩ := c
  unfold cdA cdT
  simp only
  have c1 := fun w => isNumberField_any f w
  generalize numF f = b at *
  cases b
  all_goals (
    go_enter Tryz.func113, Tryz.ntmps113
    go_wp2_with (go_at_call 89; refine (c1 _).mono ?_; rintro e w1 ⟨rfl, rfl⟩)
    go_ret
    exact ⟨rfl, (Below.refl _ _).alloc (Nat.le_refl _) _⟩)
theorem numRight_any (c : Cd) (w : World) :
    Calls Tryz.prog 248 #[cdA c] w fun e w' => e = .returned (.bool (numF c.fld && (numO c.op && (decide (c.wrd = noW) && (decide (0 ≤ c.n) && decide (c.n ≤ 1000000)))))) ∧ Below w.heap.size w w' := by
  obtain ⟨f, o, t, n⟩ := c
  unfold cdA
  simp only
  have c1 := fun w => isNumberField_any f w
  have c2 := fun w => isNumberOp_any o w
  have c3 := fun w => isTime_any n w
  unfold timB at c3
  have e1 : (t.toList == []) = decide (t = noW) := lit_b t [] noW rfl
  generalize numF f = b1 at *
  generalize numO o = b2 at *
  generalize decide (t = noW) = b3 at *
  generalize (decide (0 ≤ n) && decide (n ≤ 1000000)) = b4 at *
  cases b1 with
  | false =>
    go_enter Tryz.func248, Tryz.ntmps248
    go_wp2_with (go_at_call 89; refine (c1 _).mono ?_; rintro e w1 ⟨rfl, rfl⟩)
    go_ret
    exact ⟨rfl, (Below.refl _ _).alloc (Nat.le_refl _) _⟩
  | true =>
    cases b2 <;> cases b3
    all_goals (
      go_enter Tryz.func248, Tryz.ntmps248
      go_wp2_with (first | (go_at_call 89; refine (c1 _).mono ?_; rintro e w1 ⟨rfl, rfl⟩) | (go_at_call 158; refine (c2 _).mono ?_; rintro e w1 ⟨rfl, rfl⟩) | (go_at_call 165; refine (c3 _).mono ?_; rintro e w1 ⟨rfl, rfl⟩))
      go_ret
      exact ⟨rfl, (Below.refl _ _).alloc (Nat.le_refl _) _⟩)
theorem wordRight_any (c : Cd) (w : World) (hK : KNames w) (hs : c.wrd.size ≤ maxLen) :
    Calls Tryz.prog 250 #[cdA c] w fun e w' => e = .returned (.bool (wrdF c.fld && (wrdO c.op && (wrdR c.fld c.wrd && decide (c.n = 0))))) ∧ Below w.heap.size w w' := by
  obtain ⟨f, o, t, n⟩ := c
  unfold cdA
  simp only at hs ⊢
  have c1 := fun w => isWordField_any f w
  have c2 := fun w => isWordOp_any o w
  have c3 : ∀ W, Below w.heap.size w W → _ := fun W hb => mayAsk_any f o t n t W (hK.below hb (Nat.le_refl _)) hs
  have e1 : (n == 0) = decide (n = 0) := rfl
  clear hK hs
  generalize wrdF f = b1 at *
  generalize wrdO o = b2 at *
  generalize wrdR f t = b3 at *
  generalize decide (n = 0) = b4 at *
  have hb0 : Below w.heap.size w (w.alloc (.cells #[.string f, .string o, .string t, .int .i64 n] 185)) := (Below.refl _ _).alloc (Nat.le_refl _) _
  have HB0 := hid hb0
  have C3 := hid (c3 _ hb0)
  clear c3
  have HA := hid (heap_alloc_new w (.cells #[.string f, .string o, .string t, .int .i64 n] 185))
  clear hb0
  have K := hid (show ∀ X, Below (w.alloc (.cells #[.string f, .string o, .string t, .int .i64 n] 185)).heap.size (w.alloc (.cells #[.string f, .string o, .string t, .int .i64 n] 185)) X → X.cell? ⟨w.heap.size, 0, none⟩ = some (.string f) ∧ X.cell? ⟨w.heap.size, 1, none⟩ = some (.string o) ∧ X.cell? ⟨w.heap.size, 2, none⟩ = some (.string t) ∧ X.cell? ⟨w.heap.size, 3, none⟩ = some (.int .i64 n) ∧ Below w.heap.size w X from fun X hX => by
    have h := (hX.block _ (lt_heap HA.out)).trans HA.out
    exact ⟨by rw [Lib.cell_of_heap h]; rfl, by rw [Lib.cell_of_heap h]; rfl, by rw [Lib.cell_of_heap h]; rfl, by rw [Lib.cell_of_heap h]; rfl, HB0.out.trans (hX.mono HB0.out.size)⟩)
  clear HA
  cases b1 with
  | false =>
    go_enter Tryz.func250, Tryz.ntmps250
    go_wp2_with (go_at_call 137; refine (c1 _).mono ?_; rintro e w1 ⟨rfl, rfl⟩)
    go_ret
    exact ⟨rfl, HB0.out⟩
  | true =>
    cases b2 with
    | false =>
      go_enter Tryz.func250, Tryz.ntmps250
      go_wp2_with (first | (go_at_call 137; refine (c1 _).mono ?_; rintro e w1 ⟨rfl, rfl⟩) | (go_at_call 159; refine (c2 _).mono ?_; rintro e w1 ⟨rfl, rfl⟩))
      go_ret
      exact ⟨rfl, HB0.out⟩
    | true =>
      cases b3
      all_goals (
        go_enter Tryz.func250, Tryz.ntmps250
        go_wp2_with (first | (go_at_call 137; refine (c1 _).mono ?_; rintro e w1 ⟨rfl, rfl⟩) | (go_at_call 159; refine (c2 _).mono ?_; rintro e w1 ⟨rfl, rfl⟩) | (go_at_call 160; refine C3.out.mono ?_; rintro e w1 ⟨rfl, hb1⟩; obtain ⟨x0, x1, x2, x3, HB⟩ := K.out _ hb1; clear hb1))
        go_ret
        exact ⟨rfl, HB⟩)
end Go.Proofs.YtimlnbfalnkmhaaGreatDoor

/-
  What spec.l02Kinds answers: a contract over the seat's program.
-/
namespace Go.Proofs.YtimlnbfalnkmhaaGreatDoor
open Go.RowKit

set_option maxRecDepth 100000 in
theorem l02Kinds_new (w : World) :
    Calls Tryz.prog 138 #[] w fun e w' => e = .returned (.slice (some ⟨w.heap.size, 0, none⟩) 6 6) ∧ w' = w.alloc (.cells #[.string kStart, .string kEnter, .string kLeave, .string kSet, .string kFault, .string kEnd] 9) := by
  go_enter Tryz.func138, Tryz.ntmps138
  go_wp2
  go_ret
  exact ⟨rfl, rfl⟩
end Go.Proofs.YtimlnbfalnkmhaaGreatDoor

/-
  Events: what it is for one to be right; what impl.isNumber answers: a contract over the seat's program.
-/
namespace Go.Proofs.YtimlnbfalnkmhaaGreatDoor
open Go.RowKit

theorem isNumber_any (n : Int) (w : World) :
    Calls Tryz.prog 164 #[.int .i64 n] w fun e w' => e = .returned (.bool (numB n)) ∧ w' = w := by
  refine rng_walk (fun h1 h2 w => ?_) (fun h1 h2 w => ?_) (fun h1 w => ?_) w
  all_goals
    go_enter Tryz.func164, Tryz.ntmps164
    go_wp2
    go_ret
    exact ⟨rfl, rfl⟩
end Go.Proofs.YtimlnbfalnkmhaaGreatDoor

/-
  The kinds' names: what spec.KindText answers, for every number: a contract over the seat's program.
-/
namespace Go.Proofs.YtimlnbfalnkmhaaGreatDoor
open Go.RowKit

set_option maxRecDepth 100000 in
theorem specKindText_in (k : Int) (j : Nat) (S : ByteArray) (w : World) (hj : k = (j : Int) + 1) (h6 : j < 6) (hS : #[Value.string kStart, .string kEnter, .string kLeave, .string kSet, .string kFault, .string kEnd][j]? = some (.string S)) :
    Calls Tryz.prog 132 #[.int .i64 k] w fun e w' => e = .returned (.string S) ∧ Below w.heap.size w w' := by
  have c1 := fun w => l02Is_any k 1 6 w
  rw [rng_yes (by omega) (by omega)] at c1
  have hcell : ∀ w : World, (w.alloc (.cells #[.string kStart, .string kEnter, .string kLeave, .string kSet, .string kFault, .string kEnd] 9)).cell? ⟨w.heap.size, j, none⟩ = some (.string S) := fun w => by rw [World.cell?_alloc_mark]; exact hS
  have c2 := fun w => l02Kinds_new w
  subst hj
  clear hS
  generalize #[Value.string kStart, .string kEnter, .string kLeave, .string kSet, .string kFault, .string kEnd] = K at *
  go_enter Tryz.func132, Tryz.ntmps132
  go_wp2_with fail
  refine (c1 _).mono ?_
  rintro e w1 ⟨rfl, rfl⟩
  clear c1
  go_wp2_with fail
  refine (c2 _).mono ?_
  rintro e w2 ⟨rfl, rfl⟩
  clear c2
  have hcw := hcell w1
  clear hcell
  go_wp2
  go_ret
  exact ⟨rfl, (Below.refl _ _).alloc (Nat.le_refl _) _⟩
set_option maxRecDepth 100000 in
theorem specKindText_out (k : Int) (w : World) (hk : k < 1 ∨ 6 < k) :
    Calls Tryz.prog 132 #[.int .i64 k] w fun e w' => e = .returned (.string ⟨#[]⟩) ∧ Below w.heap.size w w' := by
  have c1 := fun w => l02Is_any k 1 6 w
  rw [rng_no (by omega)] at c1
  clear hk
  go_enter Tryz.func132, Tryz.ntmps132
  go_wp2_with fail
  refine (c1 _).mono ?_
  rintro e w1 ⟨rfl, rfl⟩
  go_wp2
  go_ret
  exact ⟨rfl, Below.refl _ _⟩
theorem specKindText_any (k : Int) (w : World) :
    Calls Tryz.prog 132 #[.int .i64 k] w fun e w' => e = .returned (.string (kdT k)) ∧ Below w.heap.size w w' := by
  rcases kd_cases k with rfl | rfl | rfl | rfl | rfl | rfl | hk | hk
  · exact specKindText_in 1 0 kStart w rfl (by decide) rfl
  · exact specKindText_in 2 1 kEnter w rfl (by decide) rfl
  · exact specKindText_in 3 2 kLeave w rfl (by decide) rfl
  · exact specKindText_in 4 3 kSet w rfl (by decide) rfl
  · exact specKindText_in 5 4 kFault w rfl (by decide) rfl
  · exact specKindText_in 6 5 kEnd w rfl (by decide) rfl
  · rw [kdT_out (.inl hk)]; exact specKindText_out k w (.inl hk)
  · rw [kdT_out (.inr hk)]; exact specKindText_out k w (.inr hk)
end Go.Proofs.YtimlnbfalnkmhaaGreatDoor
