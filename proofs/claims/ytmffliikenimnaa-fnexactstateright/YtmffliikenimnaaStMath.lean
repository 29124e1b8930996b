/-
  What it is for a State to be right: plain mathematics of lists and texts. Of no function.
-/
import Derived.Test.YtmffliikenimnaaDfMath
import Derived.Test.YtmffliikenimnaaEvT
namespace Go.Proofs.Ytmffliikenimnaa
open Go.RowKit

theorem less_irr : ∀ a : List UInt8, Op.bytesLess a a = false
  | [] => rfl
  | x :: a => by
    show (decide (x < x) || (x == x && Op.bytesLess a a)) = false
    rw [less_irr a]; simp
theorem less_asym : ∀ a b : List UInt8, Op.bytesLess a b = true → Op.bytesLess b a = false
  | [], [], h => by simp [Op.bytesLess] at h
  | [], _ :: _, _ => rfl
  | _ :: _, [], h => by simp [Op.bytesLess] at h
  | x :: a, y :: b, h => by
    simp only [Op.bytesLess, Bool.or_eq_true, decide_eq_true_eq, Bool.and_eq_true, beq_iff_eq] at h
    simp only [Op.bytesLess, Bool.or_eq_false_iff, decide_eq_false_iff_not, Bool.and_eq_false_iff, beq_eq_false_iff_ne]
    rcases h with h | ⟨rfl, h⟩
    · refine ⟨fun h' => ?_, .inl (fun e => ?_)⟩
      · exact absurd (UInt8.lt_trans h h') (UInt8.lt_irrefl _)
      · subst e; exact absurd h (UInt8.lt_irrefl _)
    · exact ⟨UInt8.lt_irrefl _, .inr (less_asym a b h)⟩
theorem less_tri : ∀ a b : List UInt8, Op.bytesLess a b = true ∨ a = b ∨ Op.bytesLess b a = true
  | [], [] => .inr (.inl rfl)
  | [], _ :: _ => .inl rfl
  | _ :: _, [] => .inr (.inr rfl)
  | x :: a, y :: b => by
    simp only [Op.bytesLess, Bool.or_eq_true, decide_eq_true_eq, Bool.and_eq_true, beq_iff_eq]
    rcases UInt8.lt_or_lt_of_ne (a := x) (b := y) |> fun f => (if h : x = y then Or.inl h else Or.inr (f h)) with h | h | h
    · subst h
      rcases less_tri a b with h | h | h
      · exact .inl (.inr ⟨rfl, h⟩)
      · exact .inr (.inl (by rw [h]))
      · exact .inr (.inr (.inr ⟨rfl, h⟩))
    · exact .inl (.inl h)
    · exact .inr (.inr (.inl h))
theorem toList_inj {a b : ByteArray} (h : a.toList = b.toList) : a = b := by
  rw [ByteArray.toList_eq, ByteArray.toList_eq] at h
  exact ByteArray.ext (Array.toList_inj.1 h)
/-- The order of texts: is a ahead of b? -/
def lt (a b : ByteArray) : Bool := Op.bytesLess a.toList b.toList
/-- A row of texts in their order. -/
def Sorted (l : List ByteArray) : Prop := ∀ i, (h : i + 1 < l.length) → lt l[i + 1] l[i] = false
structure MarksP (ss l : List ByteArray) : Prop where
  mem : ∀ i, (h : i < l.length) → l[i] ∈ ss
  sorted : Sorted l
structure VarsP (l : List Pr) : Prop where
  n : l.length ≤ 20
  nm : ∀ i, (h : i < l.length) → nrB l[i].fst = true ∧ l[i].snd.size ≤ 40
  rise : ∀ i, (h : i + 1 < l.length) → lt l[i].fst l[i + 1].fst = true
/-- A State, field by field. -/
structure St where
  status : Int
  begun : Int
  last : Int
  wait : List ByteArray
  busy : List ByteArray
  vars : List Pr
  faults : Int
structure BegP (ss : List ByteArray) (s : St) : Prop where
  t1 : timB s.begun = true
  t2 : timB s.last = true
  le : s.begun ≤ s.last
  m : s.wait.length + s.busy.length ≤ 40
  w : MarksP ss s.wait
  b : MarksP ss s.busy
  v : VarsP s.vars
  f : timB s.faults = true
structure NoneP (s : St) : Prop where
  w : s.wait.length = 0
  b : s.busy.length = 0
  b0 : s.begun = 0
  l0 : s.last = 0
  v0 : s.vars.length = 0
  f0 : s.faults = 0
structure GoneP (s : St) : Prop where
  w : s.wait.length = 0
  b : s.busy.length = 0
def StP (ss : List ByteArray) (s : St) : Prop := (s.status = 0 ∧ NoneP s) ∨ (s.status = 1 ∧ BegP ss s) ∨ (s.status = 2 ∧ GoneP s ∧ BegP ss s)
theorem stP_0 {ss : List ByteArray} {s : St} (h : s.status = 0) : StP ss s ↔ NoneP s := by
  unfold StP
  constructor
  · rintro (h' | h' | h')
    · exact h'.2
    · have := h'.1; omega
    · have := h'.1; omega
  · exact fun k => .inl ⟨h, k⟩
theorem stP_1 {ss : List ByteArray} {s : St} (h : s.status = 1) : StP ss s ↔ BegP ss s := by
  unfold StP
  constructor
  · rintro (h' | h' | h')
    · have := h'.1; omega
    · exact h'.2
    · have := h'.1; omega
  · exact fun k => .inr (.inl ⟨h, k⟩)
theorem stP_2 {ss : List ByteArray} {s : St} (h : s.status = 2) : StP ss s ↔ GoneP s ∧ BegP ss s := by
  unfold StP
  constructor
  · rintro (h' | h' | h')
    · have := h'.1; omega
    · have := h'.1; omega
    · exact h'.2
  · exact fun k => .inr (.inr ⟨h, k⟩)
theorem stP_no {ss : List ByteArray} {s : St} (h0 : ¬ s.status = 0) (h1 : ¬ s.status = 1) (h2 : ¬ s.status = 2) : ¬ StP ss s := by
  rintro (h' | h' | h')
  · exact h0 h'.1
  · exact h1 h'.1
  · exact h2 h'.1
theorem gtr_eq (a b : ByteArray) : (!(Op.bytesLess a.toList b.toList) && !(a.toList == b.toList)) = lt b a := by
  unfold lt
  rcases less_tri a.toList b.toList with h | h | h
  · rw [h, less_asym _ _ h]; rfl
  · rw [h, less_irr]; simp
  · rw [h, less_asym _ _ h]
    have : ¬ a.toList = b.toList := fun e => by rw [e, less_irr] at h; cases h
    simp [this]
theorem retB_iff {e : Ending} {p q : Prop} (h : RetB e p) (hpq : p ↔ q) : RetB e q := by
  obtain ⟨B, h1, h2⟩ := h
  exact ⟨B, h1, ⟨fun e => hpq.1 (h2.1 e), fun e => h2.2 (hpq.2 e)⟩⟩
end Go.Proofs.Ytmffliikenimnaa
