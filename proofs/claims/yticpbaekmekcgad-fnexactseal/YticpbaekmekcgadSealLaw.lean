/-
  The law FnExactSeal: spec.Seal and impl.Seal answer the same at every text.
-/
import Derived.Test.YticpbaekmekcgadSeal
namespace Go.Proofs.Yticpbaekmekcgad
open Go.RowKit Seal

theorem fnExactSeal_two (s S : ByteArray) (w : World) (c1 : ∀ w, Calls Try.prog 7 #[.string s] w fun e w' => e = .returned (.string S) ∧ Below w.heap.size w w')
    (c2 : ∀ w, Calls Try.prog 8 #[.string s] w fun e w' => e = .returned (.string S) ∧ Below w.heap.size w w') (hb : (s.size : Int) ≤ 1048576) :
    Calls Try.prog 4 #[.string s] w fun e w' => e = .returned (.bool true) ∧ Below w.heap.size w w' := by
  go_enter Try.func4, Try.ntmps4
  go_wp2_with (first | (go_at_call 7; refine (c1 _).mono ?_; rintro e w1 ⟨rfl, hb1⟩) | (go_at_call 8; refine (c2 _).mono ?_; rintro e w2 ⟨rfl, hb2⟩))
  go_ret
  exact ⟨rfl, hb1.trans (hb2.mono hb1.size)⟩
theorem fnExactSeal_walk (s : ByteArray) (w : World) (_hs : s.size ≤ maxLen) :
    Calls Try.prog 4 #[.string s] w fun e w' => e = .returned (.bool true) ∧ Below w.heap.size w w' := by
  by_cases hb : (s.size : Int) ≤ 1048576
  · by_cases h : (s.size : Int) ≤ 7996
    · exact fnExactSeal_two s _ w (fun w => specSeal_any s w h) (fun w => implSeal_any s w h) hb
    · exact fnExactSeal_two s _ w (fun w => specSeal_no s w h) (fun w => implSeal_no s w h) hb
  · go_enter Try.func4, Try.ntmps4
    go_wp2
    go_ret
    exact ⟨rfl, Below.refl _ _⟩
end Go.Proofs.Yticpbaekmekcgad
