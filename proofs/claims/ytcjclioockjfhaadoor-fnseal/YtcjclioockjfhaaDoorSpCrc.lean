/-
  What spec.Crc answers, for every text: a contract over the seat's program.
-/
import Derived.Test.YtcjclioockjfhaaDoorCrc
namespace Go.Proofs.YtcjclioockjfhaaDoor
open Go.RowKit Crc

theorem specCrc_any (s : ByteArray) (w : World) (hs : s.size ≤ maxLen) :
    Calls Tryd.prog 40 #[.string s] w fun e w' => e = .returned (.int .i64 (crcM 0 s)) ∧ w' = w := by
  have hs' := hs
  unfold maxLen at hs
  by_cases h : (s.size : Int) ≤ 8000
  · rw [crcM, if_pos ⟨h, by decide, by decide⟩]
    go_enter Tryd.func40, Tryd.ntmps40
    go_wp2_with (go_at_call 37; refine (l01Crc_any 0 s _ hs').mono ?_; rintro e w1 ⟨rfl, rfl⟩)
    go_ret
    exact ⟨rfl, rfl⟩
  · rw [crcM, if_neg (fun x => h x.1)]
    go_enter Tryd.func40, Tryd.ntmps40
    go_wp2
    go_ret
    exact ⟨rfl, rfl⟩
end Go.Proofs.YtcjclioockjfhaaDoor
