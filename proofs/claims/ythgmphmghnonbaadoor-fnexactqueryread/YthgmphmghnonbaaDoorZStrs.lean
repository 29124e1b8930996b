/-
  Texts put together: Strs, OwnB, OwnRw, PrSum.
-/
import Derived.Test.YthgmphmghnonbaaDoorZOwn
import Derived.OwnWalk
/-
  Rows of texts, and of pairs of texts, in memory: what it is that a slice holds them, and that it stays so. Of no function.
-/
namespace Go.Proofs.YthgmphmghnonbaaDoor
open Go.RowKit

/-- A row of texts, from a place on. -/
def StrsAt (w : World) (g o : Nat) (ss : List ByteArray) : Prop := g < w.heap.size ∧ ∀ i, (h : i < ss.length) → w.cell? ⟨g, o + i, none⟩ = some (.string ss[i])
/-- What a slice of texts is: empty, or a row somewhere. -/
def StrSl (w : World) (v : Value) (ss : List ByteArray) : Prop :=
  (∃ a c, v = .slice a 0 c ∧ ss = []) ∨ ∃ g o c, v = .slice (some ⟨g, o, none⟩) ss.length c ∧ (0 < ss.length ∧ ss.length ≤ c) ∧ StrsAt w g o ss
theorem StrsAt.below {w w' : World} {B g o : Nat} {ss : List ByteArray} (h : StrsAt w g o ss) (hb : Below B w w') (hg : g < B) : StrsAt w' g o ss :=
  ⟨Nat.lt_of_lt_of_le h.1 hb.size, fun i hi => by rw [hb.cell (p := ⟨g, o + i, none⟩) hg]; exact h.2 i hi⟩
theorem StrsAt.stay {w w' : World} {B g o : Nat} {ss : List ByteArray} (h : StrsAt w g o ss) (hb : Below B w w') (hB : w.heap.size ≤ B) : StrsAt w' g o ss := h.below hb (Nat.lt_of_lt_of_le h.1 hB)
theorem StrSl.stay {w w' : World} {B : Nat} {v : Value} {ss : List ByteArray} (h : StrSl w v ss) (hb : Below B w w') (hB : w.heap.size ≤ B) : StrSl w' v ss := by
  rcases h with h | ⟨g, o, c, hv, hn, h⟩
  · exact .inl h
  · exact .inr ⟨g, o, c, hv, hn, h.stay hb hB⟩
theorem StrSl.form {w : World} {v : Value} {ss : List ByteArray} (h : StrSl w v ss) : ∃ a c, v = .slice a ss.length c := by
  rcases h with ⟨a, c, rfl, rfl⟩ | ⟨g, o, c, rfl, _, _⟩
  · exact ⟨a, c, rfl⟩
  · exact ⟨_, c, rfl⟩
/-- Its first k. -/
theorem StrSl.part {w : World} {a : Option Addr} {n c k : Nat} {ss : List ByteArray} (h : StrSl w (.slice a n c) ss) (hk : k ≤ ss.length) : StrSl w (.slice a k c) (ss.take k) := by
  by_cases h0 : k = 0
  · subst h0; exact .inl ⟨a, c, rfl, by simp⟩
  · rcases h with ⟨a', c', hv, rfl⟩ | ⟨g, o, c', hv, hn, hlt, h⟩
    · simp at hk; exact absurd hk h0
    · injection hv with h1 h2 h3
      subst h1; subst h3
      refine .inr ⟨g, o, c, by rw [List.length_take, Nat.min_eq_left hk], by rw [List.length_take]; omega, hlt, fun i hi => ?_⟩
      rw [List.getElem_take]
      exact h i (by rw [List.length_take] at hi; omega)
theorem str_of_own {w : World} {base n : Nat} {e : TypeId} {v : Value} {ss : List ByteArray} (h : w.ownsRow base e 1 v n (ss.map Value.string)) : StrSl w v ss := by
  have hn : n = ss.length := by have := h.1; rw [List.length_map] at this; omega
  subst hn
  rcases h.2 with ⟨hv, h0⟩ | ⟨g, cap, cur, hv, _, _, hle, _⟩
  · exact .inl ⟨none, 0, hv, List.eq_nil_of_length_eq_zero h0⟩
  · by_cases h0 : ss.length = 0
    · exact .inl ⟨some ⟨g, 0, none⟩, cap, by rw [hv, h0], List.eq_nil_of_length_eq_zero h0⟩
    · have hlt := (h.lt g (by rw [hv]; rfl)).2
      refine .inr ⟨g, 0, cap, hv, ⟨by omega, hle⟩, hlt, fun i hi => ?_⟩
      have := h.cells (g := g) (by rw [hv]; rfl) i (.string ss[i]) (by simp [hi])
      rw [Addr.add_lit] at this
      exact this

/-- A pair of texts: a flow, a var. -/
structure Pr where
  fst : ByteArray
  snd : ByteArray
def Pr.cells (p : Pr) : List Value := [.string p.fst, .string p.snd]
structure PrAt (w : World) (g o : Nat) (p : Pr) : Prop where
  c0 : w.cell? ⟨g, o, none⟩ = some (.string p.fst)
  c1 : w.cell? ⟨g, o + 1, none⟩ = some (.string p.snd)
def PrsAt (w : World) (g o : Nat) (ps : List Pr) : Prop := g < w.heap.size ∧ ∀ i, (h : i < ps.length) → PrAt w g (o + i * 2) ps[i]
def PrSl (w : World) (v : Value) (ps : List Pr) : Prop :=
  (∃ a c, v = .slice a 0 c ∧ ps = []) ∨ ∃ g o c, v = .slice (some ⟨g, o, none⟩) ps.length c ∧ (0 < ps.length ∧ ps.length ≤ c) ∧ PrsAt w g o ps
theorem PrAt.below {w w' : World} {B g o : Nat} {p : Pr} (h : PrAt w g o p) (hb : Below B w w') (hg : g < B) : PrAt w' g o p :=
  ⟨by rw [hb.cell (p := ⟨g, o, none⟩) hg]; exact h.c0, by rw [hb.cell (p := ⟨g, o + 1, none⟩) hg]; exact h.c1⟩
theorem PrsAt.stay {w w' : World} {B g o : Nat} {ps : List Pr} (h : PrsAt w g o ps) (hb : Below B w w') (hB : w.heap.size ≤ B) : PrsAt w' g o ps :=
  ⟨Nat.lt_of_lt_of_le h.1 hb.size, fun i hi => (h.2 i hi).below hb (Nat.lt_of_lt_of_le h.1 hB)⟩
theorem PrSl.stay {w w' : World} {B : Nat} {v : Value} {ps : List Pr} (h : PrSl w v ps) (hb : Below B w w') (hB : w.heap.size ≤ B) : PrSl w' v ps := by
  rcases h with h | ⟨g, o, c, hv, hn, h⟩
  · exact .inl h
  · exact .inr ⟨g, o, c, hv, hn, h.stay hb hB⟩
theorem PrSl.form {w : World} {v : Value} {ps : List Pr} (h : PrSl w v ps) : ∃ a c, v = .slice a ps.length c := by
  rcases h with ⟨a, c, rfl, rfl⟩ | ⟨g, o, c, rfl, _, _⟩
  · exact ⟨a, c, rfl⟩
  · exact ⟨_, c, rfl⟩
theorem PrSl.part {w : World} {a : Option Addr} {n c k : Nat} {ps : List Pr} (h : PrSl w (.slice a n c) ps) (hk : k ≤ ps.length) : PrSl w (.slice a k c) (ps.take k) := by
  by_cases h0 : k = 0
  · subst h0; exact .inl ⟨a, c, rfl, by simp⟩
  · rcases h with ⟨a', c', hv, rfl⟩ | ⟨g, o, c', hv, hn, hlt, h⟩
    · simp at hk; exact absurd hk h0
    · injection hv with h1 h2 h3
      subst h1; subst h3
      refine .inr ⟨g, o, c, by rw [List.length_take, Nat.min_eq_left hk], by rw [List.length_take]; omega, hlt, fun i hi => ?_⟩
      rw [List.getElem_take]
      exact h i (by rw [List.length_take] at hi; omega)
theorem StrSl.cap {w : World} {a : Option Addr} {n c : Nat} {ss : List ByteArray} (h : StrSl w (.slice a n c) ss) : ss.length ≤ c := by
  rcases h with ⟨_, _, _, rfl⟩ | ⟨_, _, _, hv, hn, _⟩
  · exact Nat.zero_le _
  · injection hv with _ _ h3; rw [h3]; exact hn.2
theorem PrSl.cap {w : World} {a : Option Addr} {n c : Nat} {ps : List Pr} (h : PrSl w (.slice a n c) ps) : ps.length ≤ c := by
  rcases h with ⟨_, _, _, rfl⟩ | ⟨_, _, _, hv, hn, _⟩
  · exact Nat.zero_le _
  · injection hv with _ _ h3; rw [h3]; exact hn.2
theorem StrSl.row {w : World} {a : Option Addr} {n c : Nat} {ss : List ByteArray} (h : StrSl w (.slice a n c) ss) (h0 : 0 < ss.length) : ∃ g o, a = some ⟨g, o, none⟩ ∧ StrsAt w g o ss := by
  rcases h with ⟨_, _, _, rfl⟩ | ⟨g, o, _, hv, _, h⟩
  · simp at h0
  · injection hv with h1 _ _; exact ⟨g, o, h1, h⟩
theorem PrSl.row {w : World} {a : Option Addr} {n c : Nat} {ps : List Pr} (h : PrSl w (.slice a n c) ps) (h0 : 0 < ps.length) : ∃ g o, a = some ⟨g, o, none⟩ ∧ PrsAt w g o ps := by
  rcases h with ⟨_, _, _, rfl⟩ | ⟨g, o, _, hv, _, h⟩
  · simp at h0
  · injection hv with h1 _ _; exact ⟨g, o, h1, h⟩
theorem pflat_at : ∀ (ps : List Pr) (i j : Nat), (h : i < ps.length) → j < 2 → (ps.flatMap Pr.cells)[i * 2 + j]? = ps[i].cells[j]?
  | [], i, _, h, _ => absurd h (by simp)
  | p :: r, 0, j, _, hj => by
    rw [List.flatMap_cons, List.getElem?_append_left (by simp [Pr.cells]; omega)]; simp
  | p :: r, i + 1, j, h, hj => by
    rw [List.flatMap_cons, List.getElem?_append_right (by simp [Pr.cells]; omega), show (i + 1) * 2 + j - p.cells.length = i * 2 + j by simp [Pr.cells]; omega]
    rw [pflat_at r i j (by simpa using h) hj]; simp
theorem pflat_len (ps : List Pr) : (ps.flatMap Pr.cells).length = ps.length * 2 := by
  induction ps with
  | nil => rfl
  | cons p r ih => rw [List.flatMap_cons, List.length_append, ih]; simp [Pr.cells]; omega
theorem pr_of_own {w : World} {base n : Nat} {e : TypeId} {v : Value} {ps : List Pr} (h : w.ownsRow base e 2 v n (ps.flatMap Pr.cells)) : PrSl w v ps := by
  have hn : n = ps.length := by have := h.1; rw [pflat_len] at this; omega
  subst hn
  rcases h.2 with ⟨hv, h0⟩ | ⟨g, cap, cur, hv, _, _, hle, _⟩
  · exact .inl ⟨none, 0, hv, List.eq_nil_of_length_eq_zero h0⟩
  · by_cases h0 : ps.length = 0
    · exact .inl ⟨some ⟨g, 0, none⟩, cap, by rw [hv, h0], List.eq_nil_of_length_eq_zero h0⟩
    · have hlt := (h.lt g (by rw [hv]; rfl)).2
      refine .inr ⟨g, 0, cap, hv, ⟨by omega, hle⟩, hlt, fun i hi => ?_⟩
      have key : ∀ j, j < 2 → ∀ u, ps[i].cells[j]? = some u → w.cell? ⟨g, 0 + i * 2 + j, none⟩ = some u := fun j hj u hu => by
        have := h.cells (g := g) (by rw [hv]; rfl) (i * 2 + j) u (by rw [pflat_at ps i j hi hj]; exact hu)
        rw [Addr.add_lit] at this
        simpa [Nat.add_assoc] using this
      exact ⟨key 0 (by decide) _ rfl, key 1 (by decide) _ rfl⟩
/-- One more. -/
theorem pflat_snoc (l : List Pr) (e : Pr) : (l ++ [e]).flatMap Pr.cells = l.flatMap Pr.cells ++ e.cells := by simp
end Go.Proofs.YthgmphmghnonbaaDoor

/-
  A row of one's own: it stays, its base may be lower, its forms. Of no function.
-/
namespace Go.Proofs.YthgmphmghnonbaaDoor
open Go.RowKit

theorem Tryd.infoStr : (Tryd.prog.info? 9).map (fun i => (i.zero, i.size, i.bytes)) = some (some (.string ⟨#[]⟩), 1, 16) := by kernel_rfl
theorem ownB_stay {w w' : World} {base size n : Nat} {e : TypeId} {v : Value} {xs : List Value} (h : w.ownsRow base e size v n xs) (hb : Below w.heap.size w w') : w'.ownsRow base e size v n xs :=
  h.kept (grown_below (r := none) hb) (by cases v.ownBlock with
    | none => exact .inl rfl
    | some k => exact .inr (by simp))
theorem ownB_le {w : World} {base base' size n : Nat} {e : TypeId} {v : Value} {xs : List Value} (h : w.ownsRow base e size v n xs) (hb : base' ≤ base) : w.ownsRow base' e size v n xs :=
  ⟨h.1, h.2.imp id (fun ⟨g, cap, cur, a, b, c⟩ => ⟨g, cap, cur, a, Nat.le_trans hb b, c⟩)⟩
theorem ownB_form {w : World} {base size n : Nat} {e : TypeId} {v : Value} {xs : List Value} (h : w.ownsRow base e size v n xs) : ∃ a c, v = .slice a n c := by
  rcases h.2 with ⟨h0, rfl⟩ | ⟨g, cap, _, hv, _⟩
  · exact ⟨none, 0, h0⟩
  · exact ⟨_, cap, hv⟩
end Go.Proofs.YthgmphmghnonbaaDoor

/-
  Rows of one's own where one block turns. Of no function.
-/
namespace Go.Proofs.YthgmphmghnonbaaDoor
open Go.RowKit

theorem own_forms {w : World} {base size n : Nat} {e : TypeId} {v : Value} {xs : List Value} (h : w.ownsRow base e size v n xs) : ∃ a c, v = .slice a n c := by
  rcases h.2 with ⟨h0, rfl⟩ | ⟨g, cap, _, hv, _⟩
  · exact ⟨none, 0, h0⟩
  · exact ⟨_, cap, hv⟩
theorem own_kept {w w' : World} {base size n b : Nat} {e : TypeId} {v : Value} {xs : List Value} (h : w.ownsRow base e size v n xs) (hb : b < base) (hg : w.grownBy w' (some b)) : w'.ownsRow base e size v n xs := by
  refine h.kept hg ?_
  cases hv : v.ownBlock with
  | none => exact .inl rfl
  | some k =>
    have := (h.lt k hv).1
    exact .inr (by simp; omega)
theorem grown_own {w w1 w2 : World} {base size n b : Nat} {e : TypeId} {v : Value} {xs : List Value} (h : w.grownBy w1 (some b)) (hown : w1.ownsRow base e size v n xs) (hB : w.heap.size ≤ base) (hg : w1.grownBy w2 v.ownBlock) : w.grownBy w2 (some b) :=
  ⟨hg.os.trans h.os, hg.tape.trans h.tape, hg.output.trans h.output, Nat.le_trans h.size hg.size, fun k hk hr => by
    rw [hg.block k (Nat.lt_of_lt_of_le hk h.size) (fun e => by have := (hown.lt k e.symm).1; omega)]; exact h.block k hk hr⟩
end Go.Proofs.YthgmphmghnonbaaDoor

/-
  How much pairs of texts take. Of no function.
-/
namespace Go.Proofs.YthgmphmghnonbaaDoor
open Go.RowKit

def sumP : List Pr → Nat
  | [] => 0
  | e :: r => e.fst.size + e.snd.size + sumP r
theorem sumP_append (a b : List Pr) : sumP (a ++ b) = sumP a + sumP b := by
  induction a with
  | nil => simp [sumP]
  | cons e r ih => simp [sumP, ih]; omega
theorem sumP_take {es : List Pr} {k : Nat} (h : k < es.length) : sumP (es.take (k + 1)) = sumP (es.take k) + (es[k].fst.size + es[k].snd.size) := by
  rw [List.take_succ_eq_append_getElem h, sumP_append]; simp [sumP]
theorem sumP_le (es : List Pr) (k : Nat) : sumP (es.take k) ≤ sumP es := by
  have := sumP_append (es.take k) (es.drop k)
  rw [List.take_append_drop] at this; omega
def FitP (es : List Pr) : Prop := ∀ i, (h : i < es.length) → es[i].fst.size ≤ maxLen ∧ es[i].snd.size ≤ maxLen
def szP (left : Int) (es : List Pr) : Int := if (es.length : Int) + (sumP es : Int) ≤ left then left - (es.length : Int) - (sumP es : Int) else -1
theorem szP_yes {left : Int} {es : List Pr} (h : (es.length : Int) + (sumP es : Int) ≤ left) : szP left es = left - (es.length : Int) - (sumP es : Int) := if_pos h
theorem szP_no {left : Int} {es : List Pr} (h : left < (es.length : Int) + (sumP es : Int)) : szP left es = -1 := if_neg (by omega)
theorem pflat_take {es : List Pr} {k : Nat} (h : k < es.length) : (es.take (k + 1)).flatMap Pr.cells = (es.take k).flatMap Pr.cells ++ es[k].cells := by
  rw [List.take_succ_eq_append_getElem h, List.flatMap_append]; simp
theorem own_row2 {w : World} {base g n : Nat} {e : TypeId} {xs : List Value} (h : w.ownsRow base e 2 (.slice (some ⟨g, 0, none⟩) n n) n xs) : ∃ L : List Value, L.length = n * 2 ∧ w.heap[g]? = some (.cells L.toArray e (0, 0)) := by
  rcases h.2 with ⟨h1, _⟩ | ⟨g', cap, cur, h1, _, hh, _, _, hc, _⟩
  · cases h1
  · injection h1 with h1 _ h3
    injection h1 with h1
    injection h1 with h1 _ _
    subst h1; subst h3
    exact ⟨cur.toList, by simpa using hc, by simpa using hh⟩
theorem own_row1 {w : World} {base g n : Nat} {e : TypeId} {xs : List Value} (h : w.ownsRow base e 1 (.slice (some ⟨g, 0, none⟩) n n) n xs) : ∃ L : List Value, L.length = n ∧ w.heap[g]? = some (.cells L.toArray e (0, 0)) := by
  rcases h.2 with ⟨h1, _⟩ | ⟨g', cap, cur, h1, _, hh, _, _, hc, _⟩
  · cases h1
  · injection h1 with h1 _ h3
    injection h1 with h1
    injection h1 with h1 _ _
    subst h1; subst h3
    exact ⟨cur.toList, by simpa using hc, by simpa using hh⟩
theorem cell_is {w : World} {g j : Nat} {L : List Value} {t : TypeId} (h : w.heap[g]? = some (.cells L.toArray t (0, 0))) (hj : j < L.length) : ∃ u, w.cell? ⟨g, j, none⟩ = some u := by
  refine ⟨L[j], ?_⟩
  rw [Lib.cell_of_heap h]
  simp [hj]
theorem set2_take {L : List Value} {i : Nat} {a b : Value} (h : i + 2 ≤ L.length) : ((L.set i a).set (i + 1) b).take (i + 2) = L.take i ++ [a, b] := by
  apply List.ext_getElem?
  intro j
  by_cases h0 : j < i
  · rw [List.getElem?_append_left (by simp; omega)]
    simp [show ¬ i = j by omega, show ¬ i + 1 = j by omega, h0, show j < i + 2 by omega]
  · obtain ⟨m, rfl⟩ : ∃ m, j = i + m := ⟨j - i, by omega⟩
    rw [List.getElem?_append_right (by simp; omega), show i + m - (L.take i).length = m by simp; omega]
    match m with
    | 0 => simp [List.getElem?_set]; omega
    | 1 => simp [List.getElem?_set]; omega
    | n + 2 => simp [List.getElem?_take]; omega
theorem set1_take {L : List Value} {i : Nat} {a : Value} (h : i + 1 ≤ L.length) : (L.set i a).take (i + 1) = L.take i ++ [a] := by
  apply List.ext_getElem?
  intro j
  by_cases h0 : j < i
  · rw [List.getElem?_append_left (by simp; omega)]
    simp [show ¬ i = j by omega, h0, show j < i + 1 by omega]
  · obtain ⟨m, rfl⟩ : ∃ m, j = i + m := ⟨j - i, by omega⟩
    rw [List.getElem?_append_right (by simp; omega), show i + m - (L.take i).length = m by simp; omega]
    match m with
    | 0 => simp [List.getElem?_set]; omega
    | n + 1 => simp [List.getElem?_take]
end Go.Proofs.YthgmphmghnonbaaDoor
