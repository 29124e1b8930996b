/-
  Texts as bytes: what spec.PutText and impl.PutText answer, and the law FnExactPutText: they answer the same at every text.
-/
import Derived.Test.YticpbaekmekcgacJoin
import Derived.Test.YticpbaekmekcgacLong
namespace Go.Proofs.Yticpbaekmekcgac
open Go.RowKit Put Join

theorem put_len (f : Nat) : ∀ u, (put f u).length ≤ f + 1 := by
  induction f with
  | zero => intro u; simp [put]
  | succ f ih =>
    intro u
    unfold put
    split
    · simp
    · have := ih (u / 128)
      simp; omega
theorem putS_size (u : Nat) : (strOfNums (put 9 u)).size ≤ 10 := by rw [strOfNums_size]; exact put_len 9 u
def putT (s : ByteArray) : ByteArray := strOfNums (put 9 (foldI (s.size : Int)).toNat) ++ s

theorem specPutText_any (s : ByteArray) (w : World) (h : (s.size : Int) ≤ 8000) :
    Calls Try.prog 9 #[.string s] w fun e w' => e = .returned (.string (putT s)) ∧ Below w.heap.size w w' := by
  have c1 := fun w => specPutNum_any (s.size : Int) w (by omega) (by omega)
  have hz := putS_size (foldI (s.size : Int)).toNat
  unfold putT
  generalize strOfNums (put 9 (foldI (s.size : Int)).toNat) = S at *
  go_enter Try.func9, Try.ntmps9
  go_wp2_with (go_at_call 7; refine (c1 _).mono ?_; rintro e w1 ⟨rfl, hb1⟩)
  go_ret
  exact ⟨rfl, hb1⟩
theorem specPutText_no (s : ByteArray) (w : World) (h : ¬ (s.size : Int) ≤ 8000) :
    Calls Try.prog 9 #[.string s] w fun e w' => e = .returned (.string ⟨#[]⟩) ∧ Below w.heap.size w w' := by
  go_enter Try.func9, Try.ntmps9
  go_wp2
  go_ret
  exact ⟨rfl, Below.refl _ _⟩
theorem implPutText_any (s : ByteArray) (w : World) (h : (s.size : Int) ≤ 8000) :
    Calls Try.prog 10 #[.string s] w fun e w' => e = .returned (.string (putT s)) ∧ Below w.heap.size w w' := by
  have c0 := fun w => tooLong_no h w
  have c1 := fun w => implPutNum_any (s.size : Int) w (by omega) (by omega)
  have hz := putS_size (foldI (s.size : Int)).toNat
  unfold putT
  generalize strOfNums (put 9 (foldI (s.size : Int)).toNat) = S at *
  have c2 := fun w => joined_any S s w (by omega) (by omega)
  go_enter Try.func10, Try.ntmps10
  go_wp2_with (first | (go_at_call 17; refine (c0 _).mono ?_; rintro e w1 ⟨rfl, rfl⟩) | (go_at_call 8; refine (c1 _).mono ?_; rintro e w2 ⟨rfl, hb1⟩) | (go_at_call 18; refine (c2 _).mono ?_; rintro e w3 ⟨rfl, hb2⟩))
  go_ret
  exact ⟨rfl, hb1.trans (hb2.mono hb1.size)⟩
theorem implPutText_no (s : ByteArray) (w : World) (h : ¬ (s.size : Int) ≤ 8000) :
    Calls Try.prog 10 #[.string s] w fun e w' => e = .returned (.string ⟨#[]⟩) ∧ Below w.heap.size w w' := by
  have c0 := fun w => tooLong_yes h w
  go_enter Try.func10, Try.ntmps10
  go_wp2_with (go_at_call 17; refine (c0 _).mono ?_; rintro e w1 ⟨rfl, rfl⟩)
  go_ret
  exact ⟨rfl, Below.refl _ _⟩
theorem fnExactPutText_two (s S : ByteArray) (w : World) (c1 : ∀ w, Calls Try.prog 9 #[.string s] w fun e w' => e = .returned (.string S) ∧ Below w.heap.size w w')
    (c2 : ∀ w, Calls Try.prog 10 #[.string s] w fun e w' => e = .returned (.string S) ∧ Below w.heap.size w w') (hb : (s.size : Int) ≤ 1048576) :
    Calls Try.prog 4 #[.string s] w fun e w' => e = .returned (.bool true) ∧ Below w.heap.size w w' := by
  go_enter Try.func4, Try.ntmps4
  go_wp2_with (first | (go_at_call 9; refine (c1 _).mono ?_; rintro e w1 ⟨rfl, hb1⟩) | (go_at_call 10; refine (c2 _).mono ?_; rintro e w2 ⟨rfl, hb2⟩))
  go_ret
  exact ⟨rfl, hb1.trans (hb2.mono hb1.size)⟩
theorem fnExactPutText_walk (s : ByteArray) (w : World) (_hs : s.size ≤ maxLen) :
    Calls Try.prog 4 #[.string s] w fun e w' => e = .returned (.bool true) ∧ Below w.heap.size w w' := by
  by_cases hb : (s.size : Int) ≤ 1048576
  · by_cases h : (s.size : Int) ≤ 8000
    · exact fnExactPutText_two s _ w (fun w => specPutText_any s w h) (fun w => implPutText_any s w h) hb
    · exact fnExactPutText_two s _ w (fun w => specPutText_no s w h) (fun w => implPutText_no s w h) hb
  · go_enter Try.func4, Try.ntmps4
    go_wp2
    go_ret
    exact ⟨rfl, Below.refl _ _⟩
end Go.Proofs.Yticpbaekmekcgac
