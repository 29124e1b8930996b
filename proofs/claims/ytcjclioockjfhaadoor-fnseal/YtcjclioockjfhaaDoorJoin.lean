/-
  Texts put together: what impl.joined answers, for every two texts that are not too great: a contract over the seat's program.
-/
import Derived.Test.YtcjclioockjfhaaDoorGen
namespace Go.Proofs.YtcjclioockjfhaaDoor.Join
open Go.RowKit

set_option maxRecDepth 100000 in
set_option maxHeartbeats 400000 in
theorem joined_some (x y : ByteArray) (w : World) (hx : x.size ≤ 1099511627776) (hy : y.size ≤ 1099511627776) (hy0 : ¬ y = ByteArray.empty) :
    Calls Tryd.prog 32 #[.string x, .string y] w fun e w' => e = .returned (.string (x ++ y)) ∧ Below w.heap.size w w' := by
  obtain ⟨i0, hi, hz0, hz1, hz2⟩ := info_parts Tryd.info5
  go_enter Tryd.func32, Tryd.ntmps32
  go_wp2_with (at_make; refine wpList_make_full _ rfl _ _ 22 rfl w.heap.size 5 i0 (.int .u8 0) 1 Tryd.underlying22 hi hz0 hz1 _ _ _ _ (x.size + y.size) rfl rfl ?m1 ?m2 ?m3 ?m4 (Nat.le_refl _) ?_)
  case m1 => omega
  case m2 => omega
  case m3 => rw [hz2]; omega
  case m4 => unfold maxLen; omega
  intro w1 hown hgrow
  obtain ⟨L, hL, hG⟩ := own_row hown
  have hB1 : Below w.heap.size w w1 := (Below.refl _ _).grown hgrow (Nat.le_refl _) (fun k h => by cases h)
  have hinfo : (Tryd.prog.info? 5).map (·.size) = some 1 := by rw [hi]; simp [hz1]
  have HL := hid hL
  have HG := hid hG
  clear hown hgrow hi hz0 hz1 hz2 hL hG i0
  go_wp2_with (first | (refine wpList_copy_str rfl (.tmp 13) (.tmp 14) 22 9 rfl 5 Tryd.underlying22 hinfo _ _ _ rfl x rfl w.heap.size 0 L 5 HG.out (by omega) (fun _ => rfl) (by have := HL.out; omega) w.heap.size w hB1 (Nat.le_refl _) ?_; intro w2 HG2 hB2) | (refine wpList_copy_str rfl (.tmp 18) (.tmp 19) 22 9 rfl 5 Tryd.underlying22 hinfo _ _ _ rfl y rfl w.heap.size x.size (splice L 0 (Lib.byteCells x.data.toList)) 5 HG2.out ?c1 ?c2 ?c3 w.heap.size w hB2 (Nat.le_refl _) ?_))
  case c1 => omega
  case c3 => rw [length_splice _ _ _ (by rw [Lib.byteCells_length, ← Lib.size_eq, HL.out]; omega), HL.out]; exact Nat.le_refl _
  intro w3 HG3 hB3
  have hcv := conv_row (P := Tryd.prog) (cap := x.size + y.size) (g := w.heap.size) (l := x.data.toList ++ y.data.toList) 22 9 Tryd.underlying22 Tryd.underlying5 Tryd.underlying9 (by rw [List.length_append, ← Lib.size_eq, ← Lib.size_eq]) (row_two HL.out HG3.out)
  rw [append_mk] at hcv
  go_wp2
  go_ret
  exact ⟨rfl, hB3⟩
set_option maxRecDepth 100000 in
set_option maxHeartbeats 400000 in
theorem joined_none (x : ByteArray) (w : World) (hx : x.size ≤ 1099511627776) :
    Calls Tryd.prog 32 #[.string x, .string ByteArray.empty] w fun e w' => e = .returned (.string x) ∧ Below w.heap.size w w' := by
  obtain ⟨i0, hi, hz0, hz1, hz2⟩ := info_parts Tryd.info5
  go_enter Tryd.func32, Tryd.ntmps32
  go_wp2_with (at_make; refine wpList_make_full _ rfl _ _ 22 rfl w.heap.size 5 i0 (.int .u8 0) 1 Tryd.underlying22 hi hz0 hz1 _ _ _ _ x.size rfl rfl ?m1 ?m2 ?m3 ?m4 (Nat.le_refl _) ?_)
  case m1 => omega
  case m2 => omega
  case m3 => rw [hz2]; omega
  case m4 => unfold maxLen; omega
  intro w1 hown hgrow
  obtain ⟨L, hL, hG⟩ := own_row hown
  have hB1 : Below w.heap.size w w1 := (Below.refl _ _).grown hgrow (Nat.le_refl _) (fun k h => by cases h)
  have hinfo : (Tryd.prog.info? 5).map (·.size) = some 1 := by rw [hi]; simp [hz1]
  have HL := hid hL
  have HG := hid hG
  clear hown hgrow hi hz0 hz1 hz2 hL hG i0
  go_wp2_with (first | (refine wpList_copy_str rfl (.tmp 13) (.tmp 14) 22 9 rfl 5 Tryd.underlying22 hinfo _ _ _ rfl x rfl w.heap.size 0 L 5 HG.out (by omega) (fun _ => rfl) (by have := HL.out; omega) w.heap.size w hB1 (Nat.le_refl _) ?_; intro w2 HG2 hB2) | (refine wpList_copy_str rfl (.tmp 18) (.tmp 19) 22 9 rfl 5 Tryd.underlying22 hinfo _ _ _ rfl ByteArray.empty rfl w.heap.size 0 (splice L 0 (Lib.byteCells x.data.toList)) 5 HG2.out (Nat.zero_le _) (fun h => absurd h (by decide)) (Nat.zero_le _) w.heap.size w hB2 (Nat.le_refl _) ?_; intro w3 HG3 hB3; have hcv := conv_row (P := Tryd.prog) (cap := x.size) (g := w.heap.size) (l := x.data.toList) 22 9 Tryd.underlying22 Tryd.underlying5 Tryd.underlying9 (by rw [← Lib.size_eq]) (row_one HL.out (row_empty HG3.out))))
  go_ret
  exact ⟨rfl, hB3⟩
theorem joined_any (x y : ByteArray) (w : World) (hx : x.size ≤ 1099511627776) (hy : y.size ≤ 1099511627776) :
    Calls Tryd.prog 32 #[.string x, .string y] w fun e w' => e = .returned (.string (x ++ y)) ∧ Below w.heap.size w w' := by
  by_cases h : y = ByteArray.empty
  · subst h
    have := joined_none x w hx
    rwa [show x ++ ByteArray.empty = x by simp]
  · exact joined_some x y w hx hy h
end Go.Proofs.YtcjclioockjfhaaDoor.Join
