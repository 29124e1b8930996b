/-
  The law FnExactCrc: spec.Crc and impl.Crc answer the same at every text.
-/
import Derived.Test.YticpbaekmekcgacCrc
namespace Go.Proofs.Yticpbaekmekcgac
open Go.RowKit Crc

theorem implCrc_any (s : ByteArray) (w : World) :
    Calls Try.prog 14 #[.string s] w fun e w' => e = .returned (.int .i64 (crcM 0 s)) ∧ w' = w := by
  go_enter Try.func14, Try.ntmps14
  go_wp2_with (go_at_call 22; refine (implCrcMore_any 0 s _).mono ?_; rintro e w1 ⟨rfl, rfl⟩)
  go_ret
  exact ⟨rfl, rfl⟩
theorem specCrc_any (s : ByteArray) (w : World) (hs : s.size ≤ maxLen) :
    Calls Try.prog 13 #[.string s] w fun e w' => e = .returned (.int .i64 (crcM 0 s)) ∧ w' = w := by
  have hs' := hs
  unfold maxLen at hs
  by_cases h : (s.size : Int) ≤ 8000
  · rw [crcM, if_pos ⟨h, by decide, by decide⟩]
    go_enter Try.func13, Try.ntmps13
    go_wp2_with (go_at_call 21; refine (l01Crc_any 0 s _ hs').mono ?_; rintro e w1 ⟨rfl, rfl⟩)
    go_ret
    exact ⟨rfl, rfl⟩
  · rw [crcM, if_neg (fun x => h x.1)]
    go_enter Try.func13, Try.ntmps13
    go_wp2
    go_ret
    exact ⟨rfl, rfl⟩
theorem fnExactCrc_walk (s : ByteArray) (w : World) (hs : s.size ≤ maxLen) :
    Calls Try.prog 6 #[.string s] w fun e w' => e = .returned (.bool true) ∧ Below w.heap.size w w' := by
  have hs' := hs
  unfold maxLen at hs
  by_cases hb : (s.size : Int) ≤ 1048576
  · have c1 := fun w => specCrc_any s w hs'
    have c2 := fun w => implCrc_any s w
    generalize crcM 0 s = v at c1 c2
    go_enter Try.func6, Try.ntmps6
    go_wp2_with (first | (go_at_call 13; refine (c1 _).mono ?_; rintro e w' ⟨rfl, rfl⟩) | (go_at_call 14; refine (c2 _).mono ?_; rintro e w' ⟨rfl, rfl⟩))
    go_ret
    exact ⟨rfl, Below.refl _ _⟩
  · go_enter Try.func6, Try.ntmps6
    go_wp2
    go_ret
    exact ⟨rfl, Below.refl _ _⟩
end Go.Proofs.Yticpbaekmekcgac
