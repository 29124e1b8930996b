/-
  The law FnExactCrcMore: spec.CrcMore and impl.CrcMore answer the same at every number and text.
-/
import Derived.Test.YticpbaekmekcgadCrc
namespace Go.Proofs.Yticpbaekmekcgad
open Go.RowKit Crc

theorem specCrcMore_any (crc : Int) (s : ByteArray) (w : World) (hs : s.size ≤ maxLen) :
    Calls Try.prog 5 #[.int .i64 crc, .string s] w fun e w' => e = .returned (.int .i64 (crcM crc s)) ∧ w' = w := by
  have hs' := hs
  unfold maxLen at hs
  by_cases h1 : (s.size : Int) ≤ 8000
  · by_cases h2 : 0 ≤ crc
    · by_cases h3 : crc ≤ 4294967295
      · rw [crcM, if_pos ⟨h1, h2, h3⟩]
        go_enter Try.func5, Try.ntmps5
        go_wp2_with (go_at_call 9; refine (l01Crc_any crc s _ hs').mono ?_; rintro e w1 ⟨rfl, rfl⟩)
        go_ret
        exact ⟨rfl, rfl⟩
      · rw [crcM, if_neg (fun x => h3 x.2.2)]
        go_enter Try.func5, Try.ntmps5
        go_wp2
        go_ret
        exact ⟨rfl, rfl⟩
    · rw [crcM, if_neg (fun x => h2 x.2.1)]
      go_enter Try.func5, Try.ntmps5
      go_wp2
      go_ret
      exact ⟨rfl, rfl⟩
  · rw [crcM, if_neg (fun x => h1 x.1)]
    go_enter Try.func5, Try.ntmps5
    go_wp2
    go_ret
    exact ⟨rfl, rfl⟩
theorem fnExactCrcMore_walk (crc : Int) (s : ByteArray) (w : World) (_hc : (Lit.int .i64 crc).wf = true) (hs : s.size ≤ maxLen) :
    Calls Try.prog 3 #[.int .i64 crc, .string s] w fun e w' => e = .returned (.bool true) ∧ Below w.heap.size w w' := by
  have hs' := hs
  unfold maxLen at hs
  by_cases hb : (s.size : Int) ≤ 1048576
  · have c1 := fun w => specCrcMore_any crc s w hs'
    have c2 := fun w => implCrcMore_any crc s w
    generalize crcM crc s = v at c1 c2
    clear _hc
    go_enter Try.func3, Try.ntmps3
    go_wp2_with (first | (go_at_call 5; refine (c1 _).mono ?_; rintro e w' ⟨rfl, rfl⟩) | (go_at_call 6; refine (c2 _).mono ?_; rintro e w' ⟨rfl, rfl⟩))
    go_ret
    exact ⟨rfl, Below.refl _ _⟩
  · go_enter Try.func3, Try.ntmps3
    go_wp2
    go_ret
    exact ⟨rfl, Below.refl _ _⟩
end Go.Proofs.Yticpbaekmekcgad
