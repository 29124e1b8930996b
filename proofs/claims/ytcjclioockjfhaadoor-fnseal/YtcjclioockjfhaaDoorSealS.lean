/-
  Seals: what spec.Seal answers, for every text: contracts over the seat's program.
-/
import Derived.Test.YtcjclioockjfhaaDoorSealI
namespace Go.Proofs.YtcjclioockjfhaaDoor.Seal
open Go.RowKit Crc Join

theorem specSeal_any (s : ByteArray) (w : World) (h : (s.size : Int) ≤ 7996) :
    Calls Tryd.prog 15 #[.string s] w fun e w' => e = .returned (.string (sealS s)) ∧ Below w.heap.size w w' := by
  have c1 := fun w => l01Crc_any 0 s w (by unfold maxLen; omega)
  have hz := fourS_size (crcL 0 s.data.toList)
  have c2 := fun w => four_any (crcL 0 s.data.toList) w
  unfold sealS
  generalize strOfNums (four (crcL 0 s.data.toList)) = S at *
  generalize crcL 0 s.data.toList = C at *
  have hz' : S.size ≤ 4 := by omega
  clear hz
  go_enter Tryd.func15, Tryd.ntmps15
  go_wp2_with (first | (go_at_call 37; refine (c1 _).mono ?_; rintro e w1 ⟨rfl, rfl⟩) | (go_at_call 36; refine (c2 _).mono ?_; rintro e w2 ⟨rfl, hb⟩))
  go_ret
  exact ⟨rfl, hb⟩
theorem specSeal_no (s : ByteArray) (w : World) (h : ¬ (s.size : Int) ≤ 7996) :
    Calls Tryd.prog 15 #[.string s] w fun e w' => e = .returned (.string ⟨#[]⟩) ∧ Below w.heap.size w w' := by
  go_enter Tryd.func15, Tryd.ntmps15
  go_wp2
  go_ret
  exact ⟨rfl, Below.refl _ _⟩
end Go.Proofs.YtcjclioockjfhaaDoor.Seal
