/-
  What spec.CrcMore answers, for every number and text: a contract over the seat's program.
-/
import Derived.Test.YtcjclioockjfhaaDoorCrc
namespace Go.Proofs.YtcjclioockjfhaaDoor
open Go.RowKit Crc

theorem specCrcMore_any (crc : Int) (s : ByteArray) (w : World) (hs : s.size ≤ maxLen) :
    Calls Tryd.prog 20 #[.int .i64 crc, .string s] w fun e w' => e = .returned (.int .i64 (crcM crc s)) ∧ w' = w := by
  have hs' := hs
  unfold maxLen at hs
  by_cases h1 : (s.size : Int) ≤ 8000
  · by_cases h2 : 0 ≤ crc
    · by_cases h3 : crc ≤ 4294967295
      · rw [crcM, if_pos ⟨h1, h2, h3⟩]
        go_enter Tryd.func20, Tryd.ntmps20
        go_wp2_with (go_at_call 37; refine (l01Crc_any crc s _ hs').mono ?_; rintro e w1 ⟨rfl, rfl⟩)
        go_ret
        exact ⟨rfl, rfl⟩
      · rw [crcM, if_neg (fun x => h3 x.2.2)]
        go_enter Tryd.func20, Tryd.ntmps20
        go_wp2
        go_ret
        exact ⟨rfl, rfl⟩
    · rw [crcM, if_neg (fun x => h2 x.2.1)]
      go_enter Tryd.func20, Tryd.ntmps20
      go_wp2
      go_ret
      exact ⟨rfl, rfl⟩
  · rw [crcM, if_neg (fun x => h1 x.1)]
    go_enter Tryd.func20, Tryd.ntmps20
    go_wp2
    go_ret
    exact ⟨rfl, rfl⟩
end Go.Proofs.YtcjclioockjfhaaDoor
