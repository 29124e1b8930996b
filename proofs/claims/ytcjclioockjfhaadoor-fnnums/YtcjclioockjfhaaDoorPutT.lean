/-
  Texts as bytes: what spec.PutText and impl.PutText answer, for every text: contracts over the seat's program.
-/
import Derived.Test.YtcjclioockjfhaaDoorPut
import Derived.Test.YtcjclioockjfhaaDoorJoin
import Derived.Test.YtcjclioockjfhaaDoorLong
namespace Go.Proofs.YtcjclioockjfhaaDoor
open Go.RowKit Put Join

theorem put_len (f : Nat) : ∀ u, (put f u).length ≤ f + 1 := by
  induction f with
  | zero => intro u; simp [put]
  | succ f ih =>
    intro u
    unfold put
    split
    · simp
    · have := ih (u / 128)
      simp; omega
theorem putS_size (u : Nat) : (strOfNums (put 9 u)).size ≤ 10 := by rw [strOfNums_size]; exact put_len 9 u
def putT (s : ByteArray) : ByteArray := strOfNums (put 9 (foldI (s.size : Int)).toNat) ++ s

theorem specPutText_any (s : ByteArray) (w : World) (h : (s.size : Int) ≤ 8000) :
    Calls Tryd.prog 11 #[.string s] w fun e w' => e = .returned (.string (putT s)) ∧ Below w.heap.size w w' := by
  have c1 := fun w => specPutNum_any (s.size : Int) w (by omega) (by omega)
  have hz := putS_size (foldI (s.size : Int)).toNat
  unfold putT
  generalize strOfNums (put 9 (foldI (s.size : Int)).toNat) = S at *
  go_enter Tryd.func11, Tryd.ntmps11
  go_wp2_with (go_at_call 7; refine (c1 _).mono ?_; rintro e w1 ⟨rfl, hb1⟩)
  go_ret
  exact ⟨rfl, hb1⟩
theorem specPutText_no (s : ByteArray) (w : World) (h : ¬ (s.size : Int) ≤ 8000) :
    Calls Tryd.prog 11 #[.string s] w fun e w' => e = .returned (.string ⟨#[]⟩) ∧ Below w.heap.size w w' := by
  go_enter Tryd.func11, Tryd.ntmps11
  go_wp2
  go_ret
  exact ⟨rfl, Below.refl _ _⟩
theorem implPutText_any (s : ByteArray) (w : World) (h : (s.size : Int) ≤ 8000) :
    Calls Tryd.prog 10 #[.string s] w fun e w' => e = .returned (.string (putT s)) ∧ Below w.heap.size w w' := by
  have c0 := fun w => tooLong_no h w
  have c1 := fun w => implPutNum_any (s.size : Int) w (by omega) (by omega)
  have hz := putS_size (foldI (s.size : Int)).toNat
  unfold putT
  generalize strOfNums (put 9 (foldI (s.size : Int)).toNat) = S at *
  have c2 := fun w => joined_any S s w (by omega) (by omega)
  go_enter Tryd.func10, Tryd.ntmps10
  go_wp2_with (first | (go_at_call 31; refine (c0 _).mono ?_; rintro e w1 ⟨rfl, rfl⟩) | (go_at_call 6; refine (c1 _).mono ?_; rintro e w2 ⟨rfl, hb1⟩) | (go_at_call 32; refine (c2 _).mono ?_; rintro e w3 ⟨rfl, hb2⟩))
  go_ret
  exact ⟨rfl, hb1.trans (hb2.mono hb1.size)⟩
theorem implPutText_no (s : ByteArray) (w : World) (h : ¬ (s.size : Int) ≤ 8000) :
    Calls Tryd.prog 10 #[.string s] w fun e w' => e = .returned (.string ⟨#[]⟩) ∧ Below w.heap.size w w' := by
  have c0 := fun w => tooLong_yes h w
  go_enter Tryd.func10, Tryd.ntmps10
  go_wp2_with (go_at_call 31; refine (c0 _).mono ?_; rintro e w1 ⟨rfl, rfl⟩)
  go_ret
  exact ⟨rfl, Below.refl _ _⟩
end Go.Proofs.YtcjclioockjfhaaDoor
