/-
  What impl.numAt answers, for every text and place: a contract over the seat's program.
-/
import Derived.Test.YtcjclioockjfhaaDoorGnA
import Derived.Test.YtcjclioockjfhaaDoorGetI
import Derived.Test.YtcjclioockjfhaaDoorLong
namespace Go.Proofs.YtcjclioockjfhaaDoor.Get
open Go.RowKit

theorem numAt_any (s : ByteArray) (p : Int) (w : World) (h2 : p ≤ 9223372036854775807) :
    Calls Tryd.prog 26 #[.string s, .int .i64 p] w fun e w' => e = .returned (rnV (gnA s p)) ∧ w' = w := by
  by_cases h1 : (s.size : Int) ≤ 8000
  · have c0 := fun w => tooLong_no h1 w
    by_cases hp : p < 0
    · rw [gnA_neg h1 hp]
      go_enter Tryd.func26, Tryd.ntmps26
      go_wp2_with (go_at_call 31; refine (c0 _).mono ?_; rintro e w1 ⟨rfl, rfl⟩)
      go_ret3
      exact ⟨rfl, rfl⟩
    · obtain ⟨a, rfl⟩ := Int.eq_ofNat_of_zero_le (show 0 ≤ p by omega)
      rw [gnA_in h1]
      have c1 := fun w => readNum_any s a w h1 h2
      unfold rnV at c1 ⊢
      generalize (gn s a).1 = x1 at *
      generalize (gn s a).2.1 = x2 at *
      generalize (if (gn s a).2.2 = 0 then Value.nilIface else Value.iface 62 (Value.agg #[Value.int IntKind.i64 (gn s a).2.2])) = x3 at *
      go_enter Tryd.func26, Tryd.ntmps26
      go_wp2_with (first | (go_at_call 31; refine (c0 _).mono ?_; rintro e w1 ⟨rfl, rfl⟩) | (go_at_call 42; refine (c1 _).mono ?_; rintro e w2 ⟨rfl, rfl⟩))
      go_ret3
      exact ⟨rfl, rfl⟩
  · have c0 := fun w => tooLong_yes h1 w
    rw [gnA_size h1]
    go_enter Tryd.func26, Tryd.ntmps26
    go_wp2_with (go_at_call 31; refine (c0 _).mono ?_; rintro e w1 ⟨rfl, rfl⟩)
    go_ret3
    exact ⟨rfl, rfl⟩
end Go.Proofs.YtcjclioockjfhaaDoor.Get
