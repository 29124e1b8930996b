/-
  What a number read at any place of any text comes to. Of no function.
-/
import Derived.Test.YtcjclioockjfhaaDoorGet
namespace Go.Proofs.YtcjclioockjfhaaDoor.Get
open Go.RowKit

/-- What a number read at any place of any text comes to: (N, At, Code). -/
def gnA (s : ByteArray) (p : Int) : Int × Int × Int := if ¬ (s.size : Int) ≤ 8000 then (0, 0, 2) else if p < 0 then (0, 0, 1) else gn s p.toNat
theorem gnA_size {s : ByteArray} {p : Int} (h : ¬ (s.size : Int) ≤ 8000) : gnA s p = (0, 0, 2) := by simp only [gnA, h, not_false_eq_true, if_true]
theorem gnA_neg {s : ByteArray} {p : Int} (h : (s.size : Int) ≤ 8000) (hp : p < 0) : gnA s p = (0, 0, 1) := by simp only [gnA, h, not_true_eq_false, if_false, hp, if_true]
theorem gnA_in {s : ByteArray} {a : Nat} (h : (s.size : Int) ≤ 8000) : gnA s (a : Int) = gn s a := by
  simp only [gnA, h, not_true_eq_false, if_false, show ¬ (a : Int) < 0 by omega, Int.toNat_natCast]
theorem numR_code (x : Int × Nat × Nat) (a : Nat) : (numR x a).2.2 = 0 ∨ ((numR x a).1 = 0 ∧ (numR x a).2.1 = 0) := by
  unfold numR; split
  · exact .inl rfl
  · exact .inr ⟨rfl, rfl⟩
/-- With a code all else is nought. -/
theorem gnA_code (s : ByteArray) (p : Int) : (gnA s p).2.2 = 0 ∨ ((gnA s p).1 = 0 ∧ (gnA s p).2.1 = 0) := by
  unfold gnA
  split
  · exact .inr ⟨rfl, rfl⟩
  · split
    · exact .inr ⟨rfl, rfl⟩
    · exact numR_code _ _

theorem rd_len : ∀ (f : Nat) (l : List UInt8) (k U u n : Nat), rd f l k U = (0, u, n) → k < n ∧ n ≤ k + l.length
  | 0, _, _, _, _, _, h => by simp [rd] at h
  | _ + 1, [], _, _, _, _, h => by simp [rd] at h
  | f + 1, c :: r, k, U, u, n, h => by
    unfold rd at h
    split at h
    · simp at h
    · split at h
      · split at h
        · simp at h
        · simp at h
          obtain ⟨_, rfl⟩ := h
          simp
      · have := rd_len f r (k + 1) _ u n h
        simp; omega
theorem gn_at {s : ByteArray} {a : Nat} (h : (gn s a).2.2 = 0) : 0 ≤ (gn s a).2.1 ∧ (gn s a).2.1 ≤ (s.size : Int) := by
  unfold gn numR at h ⊢
  by_cases h0 : (rd 10 (s.data.toList.drop a) 0 0).1 = 0
  · rw [if_pos h0]
    have := rd_len 10 (s.data.toList.drop a) 0 0 (rd 10 (s.data.toList.drop a) 0 0).2.1 (rd 10 (s.data.toList.drop a) 0 0).2.2 (by rw [← h0])
    have hl : (s.data.toList.drop a).length = s.size - a := by simp
    simp only
    omega
  · rw [if_neg h0] at h
    exact absurd h h0
theorem gnA_at {s : ByteArray} {p : Int} (h : (gnA s p).2.2 = 0) : (s.size : Int) ≤ 8000 ∧ 0 ≤ (gnA s p).2.1 ∧ (gnA s p).2.1 ≤ (s.size : Int) := by
  by_cases h1 : (s.size : Int) ≤ 8000
  · by_cases hp : p < 0
    · rw [gnA_neg h1 hp] at h; simp at h
    · obtain ⟨a, rfl⟩ := Int.eq_ofNat_of_zero_le (show 0 ≤ p by omega)
      rw [gnA_in h1] at h ⊢
      exact ⟨h1, gn_at h⟩
  · rw [gnA_size h1] at h; simp at h

end Go.Proofs.YtcjclioockjfhaaDoor.Get
