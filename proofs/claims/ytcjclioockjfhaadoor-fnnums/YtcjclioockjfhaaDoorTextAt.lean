/-
  What impl.textAt answers, for every text and place, by what impl.numAt answers there: contracts over the seat's program.
-/
import Derived.Test.YtcjclioockjfhaaDoorNumAtI
import Derived.RegionTactic
namespace Go.Proofs.YtcjclioockjfhaaDoor.Get
open Go.RowKit

theorem textAt_code (s : ByteArray) (p c : Int) (w : World)
    (c1 : ∀ w, Calls Tryd.prog 26 #[.string s, .int .i64 p] w fun e w' => e = .returned (.tuple #[.int .i64 0, .int .i64 0, .iface 62 (.agg #[.int .i64 c])]) ∧ w' = w) :
    Calls Tryd.prog 33 #[.string s, .int .i64 p] w fun e w' => e = .returned (.tuple #[.int .i64 0, .int .i64 0, .iface 62 (.agg #[.int .i64 c])]) ∧ w' = w := by
  go_enter Tryd.func33, Tryd.ntmps33
  go_wp2_with (go_at_call 26; refine (c1 _).mono ?_; rintro e w1 ⟨rfl, rfl⟩)
  go_ret3
  exact ⟨rfl, rfl⟩
theorem textAt_syntax (s : ByteArray) (p n q : Int) (w : World)
    (c1 : ∀ w, Calls Tryd.prog 26 #[.string s, .int .i64 p] w fun e w' => e = .returned (.tuple #[.int .i64 n, .int .i64 q, .nilIface]) ∧ w' = w) (hn : n < 0 ∨ 8000 < n) :
    Calls Tryd.prog 33 #[.string s, .int .i64 p] w fun e w' => e = .returned (.tuple #[.int .i64 0, .int .i64 0, .iface 62 (.agg #[.int .i64 3])]) ∧ w' = w := by
  rcases hn with hn | hn
  · go_enter Tryd.func33, Tryd.ntmps33
    go_wp2_with (go_at_call 26; refine (c1 _).mono ?_; rintro e w1 ⟨rfl, rfl⟩)
    go_ret3
    exact ⟨rfl, rfl⟩
  · go_enter Tryd.func33, Tryd.ntmps33
    go_wp2_with (go_at_call 26; refine (c1 _).mono ?_; rintro e w1 ⟨rfl, rfl⟩)
    go_ret3
    exact ⟨rfl, rfl⟩
theorem textAt_short (s : ByteArray) (p n q : Int) (w : World)
    (c1 : ∀ w, Calls Tryd.prog 26 #[.string s, .int .i64 p] w fun e w' => e = .returned (.tuple #[.int .i64 n, .int .i64 q, .nilIface]) ∧ w' = w)
    (_hs : (s.size : Int) ≤ 8000) (h0 : 0 ≤ n) (h1 : n ≤ 8000) (h2 : (s.size : Int) - q < n) (_h3 : 0 ≤ q) (h4 : q ≤ (s.size : Int)) :
    Calls Tryd.prog 33 #[.string s, .int .i64 p] w fun e w' => e = .returned (.tuple #[.int .i64 0, .int .i64 0, .iface 62 (.agg #[.int .i64 4])]) ∧ w' = w := by
  go_enter Tryd.func33, Tryd.ntmps33
  go_wp2_with (go_at_call 26; refine (c1 _).mono ?_; rintro e w1 ⟨rfl, rfl⟩)
  go_ret3
  exact ⟨rfl, rfl⟩
theorem textAt_text (s : ByteArray) (p n q : Int) (w : World)
    (c1 : ∀ w, Calls Tryd.prog 26 #[.string s, .int .i64 p] w fun e w' => e = .returned (.tuple #[.int .i64 n, .int .i64 q, .nilIface]) ∧ w' = w)
    (hs : (s.size : Int) ≤ 8000) (h0 : 0 ≤ n) (h1 : n ≤ 8000) (h2 : n ≤ (s.size : Int) - q) (h3 : 0 ≤ q) :
    Calls Tryd.prog 33 #[.string s, .int .i64 p] w fun e w' => e = .returned (.tuple #[.int .i64 q, .int .i64 (q + n), .nilIface]) ∧ w' = w := by
  go_enter Tryd.func33, Tryd.ntmps33
  go_wp2_with (go_at_call 26; refine (c1 _).mono ?_; rintro e w1 ⟨rfl, rfl⟩)
  go_ret3
  exact ⟨rfl, rfl⟩
end Go.Proofs.YtcjclioockjfhaaDoor.Get
