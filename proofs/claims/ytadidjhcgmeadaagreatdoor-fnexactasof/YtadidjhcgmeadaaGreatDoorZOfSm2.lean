/-
  Texts put together: OfSm, AsM.
-/
import Derived.Test.YtadidjhcgmeadaaGreatDoorZEvI4
import Derived.Test.YtadidjhcgmeadaaGreatDoorZImTold2
import Derived.Test.YtadidjhcgmeadaaGreatDoorZItrE4
/-
  A State that events make is small. Of no function.
-/
namespace Go.Proofs.YtadidjhcgmeadaaGreatDoor
open Go.RowKit Go.Sort

theorem ofS_small {ss : List ByteArray} {fs : List Pr} (D : DefP ss fs) : ∀ (es : List Ev) (S : St), StP ss S → (ofS ss fs es S).2.wait.length ≤ 40 ∧ (ofS ss fs es S).2.busy.length ≤ 40 ∧ (ofS ss fs es S).2.vars.length ≤ 20
  | [], S, h => by have := stP_small h; exact ⟨this.1, this.2.1, this.2.2.1⟩
  | e :: r, S, h => by
    have q1 : ofS ss fs (e :: r) S = if (evS ss fs S e).1 = 0 then ofS ss fs r (evS ss fs S e).2 else ((evS ss fs S e).1, z0) := rfl
    rw [q1]
    by_cases hc : (evS ss fs S e).1 = 0
    · rw [if_pos hc]; exact ofS_small D r _ (evS_right D h hc)
    · rw [if_neg hc]; exact ⟨Nat.zero_le _, Nat.zero_le _, Nat.zero_le _⟩
end Go.Proofs.YtadidjhcgmeadaaGreatDoor

/-
  How a run stood at a time. Of no function.
-/
namespace Go.Proofs.YtadidjhcgmeadaaGreatDoor
open Go.RowKit Go.Sort

def upT (l : List Ev) (t : Int) : List Ev := l.takeWhile fun e => decide (e.time ≤ t)
theorem upT_is {l : List Ev} {t : Int} {k : Nat} (h1 : ∀ j, j < k → (h : j < l.length) → l[j].time ≤ t) (h2 : (h : k < l.length) → ¬ l[k].time ≤ t) : upT l t = l.take k := by
  unfold upT
  conv => lhs; rw [← List.take_append_drop k l]
  rw [List.takeWhile_append_of_pos (fun a ha => by
    obtain ⟨j, hj, rfl⟩ := List.mem_take_iff_getElem.1 ha
    exact decide_eq_true (h1 j (by omega) (by omega)))]
  by_cases hlt : k < l.length
  · rw [List.drop_eq_getElem_cons hlt, List.takeWhile_cons_of_neg (by rw [decide_eq_false (h2 hlt)]; simp)]; simp
  · rw [List.drop_eq_nil_of_le (by omega)]; simp
theorem upT_mem {l : List Ev} {t : Int} {p : Ev → Prop} (h : ∀ i, (hi : i < l.length) → p l[i]) : ∀ i, (hi : i < (upT l t).length) → p (upT l t)[i] := fun i hi => by
  have hm : (upT l t)[i] ∈ l := (List.takeWhile_sublist _).subset (List.getElem_mem hi)
  obtain ⟨j, hj, he⟩ := List.mem_iff_getElem.1 hm
  rw [← he]
  exact h j hj
theorem upT_len (l : List Ev) (t : Int) : (upT l t).length ≤ l.length := (List.takeWhile_sublist _).length_le
theorem evsl_take {w : World} {g o c : Nat} {l : List Ev} (k m : Nat) (h : EvsAt w g o l) (hk : k ≤ l.length) (_hc : c = c) : EvSl w (.slice (some ⟨g, o, none⟩) (l.take k).length m) (l.take k) := by
  by_cases h0 : 0 < (l.take k).length
  · refine .inr ⟨g, o, m, rfl, h0, h.1, fun i hi => ?_⟩
    rw [List.getElem_take]
    exact h.2 i (by rw [List.length_take] at hi; omega)
  · exact .inl ⟨_, m, by rw [show (l.take k).length = 0 by omega], List.eq_nil_of_length_eq_zero (by omega)⟩
open Classical in
noncomputable def asS (ss : List ByteArray) (fs : List Pr) (es : List Ev) (r t : Int) : Int × St := if 400 < es.length then (2, z0) else if HistP ss fs es ∧ timB t = true then (if (ofRun es r).length = 0 then (6, z0) else ofS ss fs (upT (ofRun es r) t) z0) else (1, z0)
theorem asS_big (ss : List ByteArray) (fs : List Pr) {es : List Ev} (r t : Int) (h : 400 < es.length) : asS ss fs es r t = (2, z0) := if_pos h
theorem asS_no (ss : List ByteArray) (fs : List Pr) {es : List Ev} (r t : Int) (h : ¬ 400 < es.length) (h2 : ¬ (HistP ss fs es ∧ timB t = true)) : asS ss fs es r t = (1, z0) := by unfold asS; rw [if_neg h, if_neg h2]
theorem asS_none (ss : List ByteArray) (fs : List Pr) {es : List Ev} (r t : Int) (h : ¬ 400 < es.length) (h1 : HistP ss fs es) (h2 : timB t = true) (h3 : (ofRun es r).length = 0) : asS ss fs es r t = (6, z0) := by unfold asS; rw [if_neg h, if_pos ⟨h1, h2⟩, if_pos h3]
theorem asS_yes (ss : List ByteArray) (fs : List Pr) {es : List Ev} (r t : Int) (h : ¬ 400 < es.length) (h1 : HistP ss fs es) (h2 : timB t = true) (h3 : ¬ (ofRun es r).length = 0) : asS ss fs es r t = ofS ss fs (upT (ofRun es r) t) z0 := by unfold asS; rw [if_neg h, if_pos ⟨h1, h2⟩, if_neg h3]
end Go.Proofs.YtadidjhcgmeadaaGreatDoor
