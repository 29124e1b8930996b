/-
  Unsealing: what impl.unsealed answers, for every text: contracts over the seat's program.
-/
import Derived.Test.YtcjclioockjfhaaDoorSealI
import Derived.Test.YtcjclioockjfhaaDoorClone
import Derived.Test.YtcjclioockjfhaaDoorAsWalk
import Derived.Deep.RegionWith
namespace Go.Proofs.YtcjclioockjfhaaDoor.Unseal
open Go.RowKit Crc Join Seal AsErr

def innerS (s : ByteArray) : ByteArray := s.extract 0 (s.size - 4)
def tailS (s : ByteArray) : ByteArray := s.extract (s.size - 4) s.size

theorem wrap_sub4 (s : ByteArray) (h1 : (s.size : Int) ≤ 8000) (h2 : 4 ≤ (s.size : Int)) : IntKind.i64.wrap ((s.size : Int) - 4) = (s.size : Int) - 4 := by
  simp [IntKind.wrap, IntKind.bits, IntKind.signed]; omega
theorem slice_tail (s : ByteArray) (h2 : 4 ≤ (s.size : Int)) (w : World) : (Instr.slice 9 (.string s) (some (.int .i64 ((s.size : Int) - 4))) none none).run Tryd.prog w = .ok (.string (s.extract (s.size - 4) s.size)) w := by
  have := run_slice_string_l (P := Tryd.prog) (w := w) (t := 9) (s := s) Tryd.underlying9 .i64 ((s.size : Int) - 4) (by omega) (by omega)
  rwa [show ((s.size : Int) - 4).toNat = s.size - 4 by omega] at this
theorem inner_tail (s : ByteArray) : innerS s ++ tailS s = s := by
  unfold innerS tailS
  simp
theorem seal_of {s : ByteArray} (h : strOfNums (four (crcL 0 (innerS s).data.toList)) = tailS s) : sealS (innerS s) = s := by
  unfold sealS; rw [h, inner_tail]
theorem seal_ne {s : ByteArray} (h : ¬ strOfNums (four (crcL 0 (innerS s).data.toList)) = tailS s) : ¬ sealS (innerS s) = s := by
  intro e
  apply h
  unfold sealS at e
  have e2 := e.trans (inner_tail s).symm
  have e3 := congrArg (fun b : ByteArray => b.data.toList) e2
  simp only [ByteArray.data_append, Array.toList_append] at e3
  have e4 := List.append_cancel_left e3
  apply ByteArray.ext
  exact Array.toList_inj.1 e4

theorem unsealed_yes (s : ByteArray) (w : World) (h1 : (s.size : Int) ≤ 8000) (h2 : 4 ≤ (s.size : Int)) (h : strOfNums (four (crcL 0 (innerS s).data.toList)) = tailS s) :
    Calls Tryd.prog 38 #[.string s] w fun e w' => e = .returned (.tuple #[.string (innerS s), .nilIface]) ∧ Below w.heap.size w w' := by
  have c0 := fun w => tooLong_no h1 w
  have c1 := fun w => implSeal_any (innerS s) w (by unfold innerS; simp; omega)
  rw [seal_of h] at c1
  have c2 := fun w => Clone_any (innerS s) w (by unfold innerS; simp; omega)
  clear h
  unfold innerS at *
  go_enter Tryd.func38, Tryd.ntmps38
  go_wp2_with (first | (go_at_call 31; refine (c0 _).mono ?_; rintro e w1 ⟨rfl, rfl⟩) | (go_at_call 14; refine (c1 _).mono ?_; rintro e w2 ⟨rfl, hb⟩) | (go_at_call 34; refine (c2 _).mono ?_; rintro e w3 ⟨rfl, hb2⟩))
  go_ret2
  exact ⟨rfl, hb.trans (hb2.mono hb.size)⟩
theorem unsealed_sum (s : ByteArray) (w : World) (h1 : (s.size : Int) ≤ 8000) (h2 : 4 ≤ (s.size : Int)) (h : ¬ strOfNums (four (crcL 0 (innerS s).data.toList)) = tailS s) :
    Calls Tryd.prog 38 #[.string s] w fun e w' => e = .returned (.tuple #[.string ⟨#[]⟩, .iface 62 (.agg #[.int .i64 5])]) ∧ Below w.heap.size w w' := by
  have c0 := fun w => tooLong_no h1 w
  have c1 := fun w => implSeal_any (innerS s) w (by unfold innerS; simp; omega)
  have hne := str_ne (seal_ne h)
  generalize sealS (innerS s) = S at *
  clear h
  unfold innerS at *
  go_enter Tryd.func38, Tryd.ntmps38
  go_wp2_with (first | (go_at_call 31; refine (c0 _).mono ?_; rintro e w1 ⟨rfl, rfl⟩) | (go_at_call 14; refine (c1 _).mono ?_; rintro e w2 ⟨rfl, hb⟩))
  go_ret2
  exact ⟨rfl, hb⟩
theorem unsealed_short (s : ByteArray) (w : World) (h2 : ¬ 4 ≤ (s.size : Int)) :
    Calls Tryd.prog 38 #[.string s] w fun e w' => e = .returned (.tuple #[.string ⟨#[]⟩, .iface 62 (.agg #[.int .i64 4])]) ∧ Below w.heap.size w w' := by
  have c0 := fun w => tooLong_no (s := s) (by omega) w
  go_enter Tryd.func38, Tryd.ntmps38
  go_wp2_with (go_at_call 31; refine (c0 _).mono ?_; rintro e w1 ⟨rfl, rfl⟩)
  go_ret2
  exact ⟨rfl, Below.refl _ _⟩
theorem unsealed_size (s : ByteArray) (w : World) (h1 : ¬ (s.size : Int) ≤ 8000) :
    Calls Tryd.prog 38 #[.string s] w fun e w' => e = .returned (.tuple #[.string ⟨#[]⟩, .iface 62 (.agg #[.int .i64 2])]) ∧ Below w.heap.size w w' := by
  have c0 := fun w => tooLong_yes h1 w
  go_enter Tryd.func38, Tryd.ntmps38
  go_wp2_with (go_at_call 31; refine (c0 _).mono ?_; rintro e w1 ⟨rfl, rfl⟩)
  go_ret2
  exact ⟨rfl, Below.refl _ _⟩
end Go.Proofs.YtcjclioockjfhaaDoor.Unseal
