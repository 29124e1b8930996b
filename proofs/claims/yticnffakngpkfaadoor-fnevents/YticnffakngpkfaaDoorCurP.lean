/-
  Reading rows of events in a text: plain functions and their bounds. Of no function of the program.
-/
import Derived.Test.YticnffakngpkfaaDoorCurE
namespace Go.Proofs.YticnffakngpkfaaDoor
open Go.RowKit Get

/-- So many events, behind those that there are; it stops at a fault. -/
def runS (t : ByteArray) : Nat → List Ev → Option Nat → List Ev × Option Nat
  | 0, l, st => (l, st)
  | _ + 1, l, none => (l, none)
  | k + 1, l, some a => runS t k (l ++ [(evS t (some a)).1]) (evS t (some a)).2
theorem runS_none (t : ByteArray) (k : Nat) (l : List Ev) : runS t k l none = (l, none) := by cases k <;> rfl
/-- A row of events, its number first. -/
def rowS (t : ByteArray) (st : Option Nat) : List Ev × Option Nat := runS t (numS t st).1.toNat [] (numS t st).2

theorem numS_le {t : ByteArray} {a a' : Nat} (_ht : (t.size : Int) ≤ 8000) (h : (numS t (some a)).2 = some a') : a + 1 ≤ a' ∧ a' ≤ t.size := by
  by_cases hc : (gn t a).2.2 = 0
  · rw [numS_ok hc] at h
    simp at h
    have hat := gn_at hc
    have hlt : (a : Int) + 1 ≤ (gn t a).2.1 := by
      unfold gn numR at hc ⊢
      by_cases h0 : (rd 10 (t.data.toList.drop a) 0 0).1 = 0
      · rw [if_pos h0]
        have := rd_len 10 (t.data.toList.drop a) 0 0 (rd 10 (t.data.toList.drop a) 0 0).2.1 (rd 10 (t.data.toList.drop a) 0 0).2.2 (by rw [← h0])
        simp only
        omega
      · rw [if_neg h0] at hc
        exact absurd hc h0
    omega
  · rw [numS_bad hc] at h; simp at h
theorem textS_le {t : ByteArray} {a a' : Nat} (ht : (t.size : Int) ≤ 8000) (h : (textS t (some a)).2 = some a') : a + 1 ≤ a' ∧ a' ≤ t.size := by
  by_cases hc : (gn t a).2.2 = 0
  · have hn := numS_ok hc
    have hle : a + 1 ≤ (gn t a).2.1.toNat ∧ (gn t a).2.1.toNat ≤ t.size := numS_le ht (a' := (gn t a).2.1.toNat) (by rw [hn])
    have hat := gn_at hc
    by_cases h1 : (gn t a).1 < 0 ∨ 8000 < (gn t a).1
    · rw [textS_syn hc h1] at h; simp at h
    · by_cases h2 : (t.size : Int) - (gn t a).1 < (gn t a).2.1
      · rw [textS_short hc h1 h2] at h; simp at h
      · rw [textS_ok hc h1 h2] at h
        simp at h
        omega
  · rw [textS_bad hc] at h; simp at h
theorem textS_size {t : ByteArray} {st : Option Nat} (ht : (t.size : Int) ≤ 8000) : (textS t st).1.size ≤ 8000 := by
  cases st with
  | none => exact Nat.zero_le _
  | some a =>
    by_cases hc : (gn t a).2.2 = 0
    · by_cases h1 : (gn t a).1 < 0 ∨ 8000 < (gn t a).1
      · rw [textS_syn hc h1]; exact Nat.zero_le _
      · by_cases h2 : (t.size : Int) - (gn t a).1 < (gn t a).2.1
        · rw [textS_short hc h1 h2]; exact Nat.zero_le _
        · rw [textS_ok hc h1 h2]
          simp
          omega
    · rw [textS_bad hc]; exact Nat.zero_le _
theorem evS_le {t : ByteArray} {a a' : Nat} (ht : (t.size : Int) ≤ 8000) (h : (evS t (some a)).2 = some a') : a + 6 ≤ a' ∧ a' ≤ t.size := by
  obtain ⟨⟨q0, s1⟩, h1⟩ : ∃ x, numS t (some a) = x := ⟨_, rfl⟩
  obtain ⟨⟨q1, s2⟩, h2⟩ : ∃ x, numS t s1 = x := ⟨_, rfl⟩
  obtain ⟨⟨q2, s3⟩, h3⟩ : ∃ x, numS t s2 = x := ⟨_, rfl⟩
  obtain ⟨⟨q3, s4⟩, h4⟩ : ∃ x, numS t s3 = x := ⟨_, rfl⟩
  obtain ⟨⟨q4, s5⟩, h5⟩ : ∃ x, textS t s4 = x := ⟨_, rfl⟩
  obtain ⟨⟨q5, s6⟩, h6⟩ : ∃ x, textS t s5 = x := ⟨_, rfl⟩
  rw [evS_eq h1 h2 h3 h4 h5 h6] at h
  obtain rfl : s6 = some a' := h
  cases s5 with
  | none => rw [textS_none] at h6; simp at h6
  | some a5 =>
    have e6 := textS_le ht (by rw [h6])
    cases s4 with
    | none => rw [textS_none] at h5; simp at h5
    | some a4 =>
      have e5 := textS_le ht (by rw [h5])
      cases s3 with
      | none => rw [numS_none] at h4; simp at h4
      | some a3 =>
        have e4 := numS_le ht (by rw [h4])
        cases s2 with
        | none => rw [numS_none] at h3; simp at h3
        | some a2 =>
          have e3 := numS_le ht (by rw [h3])
          cases s1 with
          | none => rw [numS_none] at h2; simp at h2
          | some a1 =>
            have e2 := numS_le ht (by rw [h2])
            have e1 := numS_le ht (by rw [h1])
            omega
theorem evS_fit {t : ByteArray} {st : Option Nat} (ht : (t.size : Int) ≤ 8000) : (evS t st).1.step.size ≤ 8000 ∧ (evS t st).1.val.size ≤ 8000 := ⟨textS_size ht, textS_size ht⟩

/-- What the loop carries: so many are to come; how many there are fits the text. -/
structure Run (t : ByteArray) (R : List Ev × Option Nat) (k : Nat) (l : List Ev) (st : Option Nat) : Prop where
  all : R = runS t k l st
  many : 6 * l.length ≤ 8006
  place : ∀ a, st = some a → 6 * l.length ≤ a ∧ a ≤ t.size
  fit : ∀ i, (h : i < l.length) → l[i].step.size ≤ 8000 ∧ l[i].val.size ≤ 8000
theorem Run.step {t : ByteArray} {R : List Ev × Option Nat} {k a : Nat} {l : List Ev} (ht : (t.size : Int) ≤ 8000) (h : Run t R (k + 1) l (some a)) : Run t R k (l ++ [(evS t (some a)).1]) (evS t (some a)).2 := by
  have hp := h.place a rfl
  refine ⟨h.all, by simp; omega, fun a' ha' => ?_, fun i hi => ?_⟩
  · have := evS_le ht ha'
    simp; omega
  · by_cases hil : i < l.length
    · rw [List.getElem_append_left hil]; exact h.fit i hil
    · have hie : i = l.length := by simp at hi; omega
      subst hie
      simp
      exact evS_fit ht
theorem Run.stop {t : ByteArray} {R : List Ev × Option Nat} {k : Nat} {l : List Ev} (h : Run t R k l none) : R = (l, none) := by rw [h.all, runS_none]
theorem Run.done {t : ByteArray} {R : List Ev × Option Nat} {l : List Ev} {st : Option Nat} (h : Run t R 0 l st) : R = (l, st) := h.all
end Go.Proofs.YticnffakngpkfaaDoor
