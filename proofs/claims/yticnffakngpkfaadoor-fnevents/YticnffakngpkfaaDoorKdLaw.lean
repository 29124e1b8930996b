/-
  The kinds' names: what spec.KindText answers, for every number, and the law FnExactKindText: spec.KindText and impl.KindText answer the same.
-/
import Derived.Test.YticnffakngpkfaaDoorKd
import Derived.Test.YticnffakngpkfaaDoorEv
namespace Go.Proofs.YticnffakngpkfaaDoor
open Go.RowKit

set_option maxRecDepth 100000 in
theorem specKindText_in (k : Int) (j : Nat) (S : ByteArray) (w : World) (hj : k = (j : Int) + 1) (h6 : j < 6) (hS : #[Value.string kStart, .string kEnter, .string kLeave, .string kSet, .string kFault, .string kEnd][j]? = some (.string S)) :
    Calls Tryd.prog 16 #[.int .i64 k] w fun e w' => e = .returned (.string S) ∧ Below w.heap.size w w' := by
  have c1 := fun w => l02Is_any k 1 6 w
  rw [rng_yes (by omega) (by omega)] at c1
  have hcell : ∀ w : World, (w.alloc (.cells #[.string kStart, .string kEnter, .string kLeave, .string kSet, .string kFault, .string kEnd] 9)).cell? ⟨w.heap.size, j, none⟩ = some (.string S) := fun w => by rw [World.cell?_alloc_mark]; exact hS
  have c2 := fun w => l02Kinds_any w
  subst hj
  clear hS
  generalize #[Value.string kStart, .string kEnter, .string kLeave, .string kSet, .string kFault, .string kEnd] = K at *
  go_enter Tryd.func16, Tryd.ntmps16
  go_wp2_with fail
  refine (c1 _).mono ?_
  rintro e w1 ⟨rfl, rfl⟩
  clear c1
  go_wp2_with fail
  refine (c2 _).mono ?_
  rintro e w2 ⟨rfl, rfl⟩
  clear c2
  have hcw := hcell w1
  clear hcell
  go_wp2
  go_ret
  exact ⟨rfl, (Below.refl _ _).alloc (Nat.le_refl _) _⟩
set_option maxRecDepth 100000 in
theorem specKindText_out (k : Int) (w : World) (hk : k < 1 ∨ 6 < k) :
    Calls Tryd.prog 16 #[.int .i64 k] w fun e w' => e = .returned (.string ⟨#[]⟩) ∧ Below w.heap.size w w' := by
  have c1 := fun w => l02Is_any k 1 6 w
  rw [rng_no (by omega)] at c1
  clear hk
  go_enter Tryd.func16, Tryd.ntmps16
  go_wp2_with fail
  refine (c1 _).mono ?_
  rintro e w1 ⟨rfl, rfl⟩
  go_wp2
  go_ret
  exact ⟨rfl, Below.refl _ _⟩
theorem specKindText_any (k : Int) (w : World) :
    Calls Tryd.prog 16 #[.int .i64 k] w fun e w' => e = .returned (.string (kdT k)) ∧ Below w.heap.size w w' := by
  rcases kd_cases k with rfl | rfl | rfl | rfl | rfl | rfl | hk | hk
  · exact specKindText_in 1 0 kStart w rfl (by decide) rfl
  · exact specKindText_in 2 1 kEnter w rfl (by decide) rfl
  · exact specKindText_in 3 2 kLeave w rfl (by decide) rfl
  · exact specKindText_in 4 3 kSet w rfl (by decide) rfl
  · exact specKindText_in 5 4 kFault w rfl (by decide) rfl
  · exact specKindText_in 6 5 kEnd w rfl (by decide) rfl
  · rw [kdT_out (.inl hk)]; exact specKindText_out k w (.inl hk)
  · rw [kdT_out (.inr hk)]; exact specKindText_out k w (.inr hk)
theorem fnExactKindText_walk (k : Int) (w : World) (hg : KNames w) :
    Calls Tryd.prog 4 #[.int .i64 k] w fun e w' => e = .returned (.bool true) ∧ Below w.heap.size w w' := by
  have c1 := fun w => specKindText_any k w
  have c2 := fun w => implKindText_any k w
  generalize kdT k = S at *
  have HG := hid hg
  have HC2 := hid c2
  clear hg c2
  go_enter Tryd.func4, Tryd.ntmps4
  go_wp2_with fail
  refine (c1 _).mono ?_
  rintro e w1 ⟨rfl, hb1⟩
  go_wp2_with fail
  refine (HC2.out _ (HG.out.below hb1 (Nat.le_refl _))).mono ?_
  rintro e w2 ⟨rfl, rfl⟩
  go_wp2
  go_ret
  exact ⟨rfl, hb1⟩
end Go.Proofs.YticnffakngpkfaaDoor
