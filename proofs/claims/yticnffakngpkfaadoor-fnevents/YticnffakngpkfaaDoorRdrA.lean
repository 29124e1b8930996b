/-
  What (*spec.l02Reader).num and (*spec.l02Reader).text answer, by what is read at the reader's place: contracts over the seat's program.
-/
import Derived.Test.YticnffakngpkfaaDoorRdrI
namespace Go.Proofs.YticnffakngpkfaaDoor
open Go.RowKit Get

theorem rdrNum_any (b : Nat) (t : ByteArray) (st : Option Nat) (w : World) (ht : (t.size : Int) ≤ 8000) (h : RdrAt w b t st) :
    Calls Tryd.prog 51 #[.pointer (some ⟨b, 0, none⟩)] w fun e w' => e = .returned (.int .i64 (numS t st).1) ∧ RdrAt w' b t (numS t st).2 ∧ w.grownBy w' (some b) := by
  cases st with
  | none =>
    obtain ⟨a, ha, hb⟩ := h
    have c1 := fun w => specGetNum_any t (a : Int) w (by omega)
    unfold numV at c1
    refine (rdrNum_still b t a _ _ _ w hb c1).mono ?_
    rintro e w' ⟨rfl, h1, h2⟩
    exact ⟨rfl, ⟨a, ha, h1⟩, h2⟩
  | some a =>
    obtain ⟨ha, hb⟩ := h
    have c1 := fun w => specGetNum_any t (a : Int) w (by omega)
    rw [gnA_in ht] at c1
    unfold numV at c1
    by_cases hc : (gn t a).2.2 = 0
    · rw [hc] at c1
      rw [numS_ok hc]
      have hat := gn_at hc
      obtain ⟨q, hq⟩ := Int.eq_ofNat_of_zero_le hat.1
      rw [hq] at c1 hat
      refine (rdrNum_ok b t a _ _ w hb c1).mono ?_
      rintro e w' ⟨rfl, h1, h2⟩
      refine ⟨rfl, ⟨?_, ?_⟩, h2⟩
      · rw [hq, Int.toNat_natCast]; omega
      · rw [hq, Int.toNat_natCast]; exact h1
    · rw [numS_bad hc]
      refine (rdrNum_bad b t a _ _ _ w hb c1 (by rw [bne_iff_ne]; exact hc)).mono ?_
      rintro e w' ⟨rfl, h1, h2⟩
      exact ⟨rfl, ⟨a, ha, h1⟩, h2⟩

/-- What spec.GetText comes to at a place of a text. -/
theorem specGetText_at (t : ByteArray) (a : Nat) (ht : (t.size : Int) ≤ 8000) (ha : a ≤ t.size) :
    ∃ (s : ByteArray) (q c : Int), (∀ w, Calls Tryd.prog 63 #[.string t, .int .i64 (a : Int)] w fun e w' => e = .returned (.agg #[.string s, .int .i64 q, .int .i64 c]) ∧ Below w.heap.size w w') ∧
      ((c = 0 ∧ 0 ≤ q ∧ q ≤ (t.size : Int) ∧ textS t (some a) = (s, some q.toNat)) ∨ (c ≠ 0 ∧ textS t (some a) = (⟨#[]⟩, none))) := by
  have c1 := fun w => specGetNum_any t (a : Int) w (by omega)
  rw [gnA_in ht] at c1
  unfold numV at c1
  by_cases hc : (gn t a).2.2 = 0
  · rw [hc] at c1
    have hat := gn_at hc
    by_cases h1 : (gn t a).1 < 0 ∨ 8000 < (gn t a).1
    · exact ⟨_, _, _, fun w => specGetText_bad t a _ _ 0 3 w c1 (.inr ⟨rfl, h1, rfl⟩), .inr ⟨by decide, textS_syn hc h1⟩⟩
    · by_cases h2 : (t.size : Int) - (gn t a).1 < (gn t a).2.1
      · exact ⟨_, _, _, fun w => specGetText_short t a _ _ w c1 ht (by omega) (by omega) h2, .inr ⟨by decide, textS_short hc h1 h2⟩⟩
      · exact ⟨_, _, _, fun w => specGetText_text t a _ _ w c1 ht (by omega) (by omega) (by omega) hat.1, .inl ⟨rfl, by omega, by omega, textS_ok hc h1 h2⟩⟩
  · exact ⟨_, _, _, fun w => specGetText_bad t a _ _ _ _ w c1 (.inl ⟨hc, rfl⟩), .inr ⟨hc, textS_bad hc⟩⟩

theorem rdrText_any (b : Nat) (t : ByteArray) (st : Option Nat) (w : World) (ht : (t.size : Int) ≤ 8000) (h : RdrAt w b t st) :
    Calls Tryd.prog 52 #[.pointer (some ⟨b, 0, none⟩)] w fun e w' => e = .returned (.string (textS t st).1) ∧ RdrAt w' b t (textS t st).2 ∧ w.grownBy w' (some b) := by
  cases st with
  | none =>
    obtain ⟨a, ha, hb⟩ := h
    obtain ⟨s, q, c, c1, _⟩ := specGetText_at t a ht ha
    refine (rdrText_still b t a _ _ _ w hb c1).mono ?_
    rintro e w' ⟨rfl, h1, h2⟩
    exact ⟨rfl, ⟨a, ha, h1⟩, h2⟩
  | some a =>
    obtain ⟨ha, hb⟩ := h
    obtain ⟨s, q, c, c1, hx⟩ := specGetText_at t a ht ha
    rcases hx with ⟨rfl, hq0, hq1, he⟩ | ⟨hc, he⟩
    · rw [he]
      obtain ⟨q', rfl⟩ := Int.eq_ofNat_of_zero_le hq0
      refine (rdrText_ok b t a _ _ w hb c1).mono ?_
      rintro e w' ⟨rfl, h1, h2⟩
      refine ⟨rfl, ⟨?_, ?_⟩, h2⟩
      · rw [Int.toNat_natCast]; omega
      · rw [Int.toNat_natCast]; exact h1
    · rw [he]
      refine (rdrText_bad b t a _ _ _ w hb c1 (by rw [bne_iff_ne]; exact hc)).mono ?_
      rintro e w' ⟨rfl, h1, h2⟩
      exact ⟨rfl, ⟨a, ha, h1⟩, h2⟩
end Go.Proofs.YticnffakngpkfaaDoor
