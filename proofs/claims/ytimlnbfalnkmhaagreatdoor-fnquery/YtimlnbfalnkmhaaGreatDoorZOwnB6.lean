/-
  Texts put together: OwnB, OwnC, OwnRw, PrSum, DfV, DrDf.
-/
import Derived.Test.YtimlnbfalnkmhaaGreatDoorZSrcA5
import Derived.Test.YtimlnbfalnkmhaaGreatDoorZGen2
import Derived.OwnWalk
/-
  A row of one's own: it stays, its base may be lower, its forms. Of no function.
-/
namespace Go.Proofs.YtimlnbfalnkmhaaGreatDoor
open Go.RowKit

theorem Tryz.infoStr : (Tryz.prog.info? 9).map (fun i => (i.zero, i.size, i.bytes)) = some (some (.string ⟨#[]⟩), 1, 16) := by kernel_rfl
theorem ownB_stay {w w' : World} {base size n : Nat} {e : TypeId} {v : Value} {xs : List Value} (h : w.ownsRow base e size v n xs) (hb : Below w.heap.size w w') : w'.ownsRow base e size v n xs :=
  h.kept (grown_below (r := none) hb) (by cases v.ownBlock with
    | none => exact .inl rfl
    | some k => exact .inr (by simp))
theorem ownB_le {w : World} {base base' size n : Nat} {e : TypeId} {v : Value} {xs : List Value} (h : w.ownsRow base e size v n xs) (hb : base' ≤ base) : w.ownsRow base' e size v n xs :=
  ⟨h.1, h.2.imp id (fun ⟨g, cap, cur, a, b, c⟩ => ⟨g, cap, cur, a, Nat.le_trans hb b, c⟩)⟩
theorem ownB_form {w : World} {base size n : Nat} {e : TypeId} {v : Value} {xs : List Value} (h : w.ownsRow base e size v n xs) : ∃ a c, v = .slice a n c := by
  rcases h.2 with ⟨h0, rfl⟩ | ⟨g, cap, _, hv, _⟩
  · exact ⟨none, 0, h0⟩
  · exact ⟨_, cap, hv⟩
end Go.Proofs.YtimlnbfalnkmhaaGreatDoor

/-
  Rows of one's own where other blocks turn. Of no function.
-/
namespace Go.Proofs.YtimlnbfalnkmhaaGreatDoor
open Go.RowKit

/-- A row of one's own lies in no block of another type. -/
theorem own_ne {w : World} {base size n B : Nat} {e t : TypeId} {v : Value} {xs : List Value} {c : Array Value} {f : Nat × Nat} (h : w.ownsRow base e size v n xs) (hB : w.heap[B]? = some (.cells c t f)) (hne : e ≠ t) : ∀ g, v.ownBlock = some g → g ≠ B := by
  intro g hg he
  subst he
  rcases h.2 with ⟨hv, _⟩ | ⟨g', cap, cur, hv, _, hh, _⟩
  · rw [hv] at hg; cases hg
  · rw [hv] at hg
    injection hg with hg
    subst hg
    rw [hB] at hh
    injection hh with hh
    injection hh with _ h2 _
    exact hne h2.symm
/-- It stays where its block does. -/
theorem own_chg {p : Nat → Prop} {w w' : World} {base size n : Nat} {e : TypeId} {v : Value} {xs : List Value} (h : w.ownsRow base e size v n xs) (hc : Chg p w w') (hp : ∀ g, v.ownBlock = some g → ¬ p g) : w'.ownsRow base e size v n xs := by
  refine ⟨h.1, ?_⟩
  rcases h.2 with h0 | ⟨g, cap, cur, hv, hb, hh, r⟩
  · exact .inl h0
  · exact .inr ⟨g, cap, cur, hv, hb, (hc.block g (lt_heap hh) (hp g (by rw [hv]; rfl))).trans hh, r⟩
theorem own_lt {w : World} {base size n : Nat} {e : TypeId} {v : Value} {xs : List Value} (h : w.ownsRow base e size v n xs) : ∀ g, v.ownBlock = some g → base ≤ g ∧ g < w.heap.size := fun g hg => h.lt g hg
/-- Two rows in two blocks. -/
def Apart (v u : Value) : Prop := ∀ g, v.ownBlock = some g → u.ownBlock ≠ some g
theorem Apart.symm {v u : Value} (h : Apart v u) : Apart u v := fun g hg he => h g he hg
theorem apart_of {w : World} {b1 b2 s1 s2 n1 n2 m : Nat} {e1 e2 : TypeId} {v u : Value} {xs ys : List Value} {w' : World} (h : w.ownsRow b1 e1 s1 v n1 xs) (h' : w'.ownsRow b2 e2 s2 u n2 ys) (hm : w.heap.size ≤ m) (hb : m ≤ b2) : Apart v u := fun g hg he => by
  have := (h.lt g hg).2
  have := (h'.lt g he).1
  omega
/-- Rows of two types lie apart. -/
theorem apart_ty {w : World} {b1 b2 s1 s2 n1 n2 : Nat} {e1 e2 : TypeId} {v u : Value} {xs ys : List Value} (h : w.ownsRow b1 e1 s1 v n1 xs) (h' : w.ownsRow b2 e2 s2 u n2 ys) (hne : e1 ≠ e2) : Apart v u := fun g hg he => by
  rcases h'.2 with ⟨hv, _⟩ | ⟨g', cap, cur, hv, _, hh, _⟩
  · rw [hv] at he; cases he
  · rw [hv] at he
    injection he with he
    subst he
    exact own_ne h hh hne g' hg rfl
end Go.Proofs.YtimlnbfalnkmhaaGreatDoor

/-
  Rows of one's own where one block turns. Of no function.
-/
namespace Go.Proofs.YtimlnbfalnkmhaaGreatDoor
open Go.RowKit

theorem own_forms {w : World} {base size n : Nat} {e : TypeId} {v : Value} {xs : List Value} (h : w.ownsRow base e size v n xs) : ∃ a c, v = .slice a n c := by
  rcases h.2 with ⟨h0, rfl⟩ | ⟨g, cap, _, hv, _⟩
  · exact ⟨none, 0, h0⟩
  · exact ⟨_, cap, hv⟩
theorem own_kept {w w' : World} {base size n b : Nat} {e : TypeId} {v : Value} {xs : List Value} (h : w.ownsRow base e size v n xs) (hb : b < base) (hg : w.grownBy w' (some b)) : w'.ownsRow base e size v n xs := by
  refine h.kept hg ?_
  cases hv : v.ownBlock with
  | none => exact .inl rfl
  | some k =>
    have := (h.lt k hv).1
    exact .inr (by simp; omega)
theorem grown_own {w w1 w2 : World} {base size n b : Nat} {e : TypeId} {v : Value} {xs : List Value} (h : w.grownBy w1 (some b)) (hown : w1.ownsRow base e size v n xs) (hB : w.heap.size ≤ base) (hg : w1.grownBy w2 v.ownBlock) : w.grownBy w2 (some b) :=
  ⟨hg.os.trans h.os, hg.tape.trans h.tape, hg.output.trans h.output, Nat.le_trans h.size hg.size, fun k hk hr => by
    rw [hg.block k (Nat.lt_of_lt_of_le hk h.size) (fun e => by have := (hown.lt k e.symm).1; omega)]; exact h.block k hk hr⟩
end Go.Proofs.YtimlnbfalnkmhaaGreatDoor

/-
  How much pairs of texts take. Of no function.
-/
namespace Go.Proofs.YtimlnbfalnkmhaaGreatDoor
open Go.RowKit

def sumP : List Pr → Nat
  | [] => 0
  | e :: r => e.fst.size + e.snd.size + sumP r
theorem sumP_append (a b : List Pr) : sumP (a ++ b) = sumP a + sumP b := by
  induction a with
  | nil => simp [sumP]
  | cons e r ih => simp [sumP, ih]; omega
theorem sumP_take {es : List Pr} {k : Nat} (h : k < es.length) : sumP (es.take (k + 1)) = sumP (es.take k) + (es[k].fst.size + es[k].snd.size) := by
  rw [List.take_succ_eq_append_getElem h, sumP_append]; simp [sumP]
theorem sumP_le (es : List Pr) (k : Nat) : sumP (es.take k) ≤ sumP es := by
  have := sumP_append (es.take k) (es.drop k)
  rw [List.take_append_drop] at this; omega
def FitP (es : List Pr) : Prop := ∀ i, (h : i < es.length) → es[i].fst.size ≤ maxLen ∧ es[i].snd.size ≤ maxLen
def szP (left : Int) (es : List Pr) : Int := if (es.length : Int) + (sumP es : Int) ≤ left then left - (es.length : Int) - (sumP es : Int) else -1
theorem szP_yes {left : Int} {es : List Pr} (h : (es.length : Int) + (sumP es : Int) ≤ left) : szP left es = left - (es.length : Int) - (sumP es : Int) := if_pos h
theorem szP_no {left : Int} {es : List Pr} (h : left < (es.length : Int) + (sumP es : Int)) : szP left es = -1 := if_neg (by omega)
theorem pflat_take {es : List Pr} {k : Nat} (h : k < es.length) : (es.take (k + 1)).flatMap Pr.cells = (es.take k).flatMap Pr.cells ++ es[k].cells := by
  rw [List.take_succ_eq_append_getElem h, List.flatMap_append]; simp
theorem own_row2 {w : World} {base g n : Nat} {e : TypeId} {xs : List Value} (h : w.ownsRow base e 2 (.slice (some ⟨g, 0, none⟩) n n) n xs) : ∃ L : List Value, L.length = n * 2 ∧ w.heap[g]? = some (.cells L.toArray e (0, 0)) := by
  rcases h.2 with ⟨h1, _⟩ | ⟨g', cap, cur, h1, _, hh, _, _, hc, _⟩
  · cases h1
  · injection h1 with h1 _ h3
    injection h1 with h1
    injection h1 with h1 _ _
    subst h1; subst h3
    exact ⟨cur.toList, by simpa using hc, by simpa using hh⟩
theorem own_row1 {w : World} {base g n : Nat} {e : TypeId} {xs : List Value} (h : w.ownsRow base e 1 (.slice (some ⟨g, 0, none⟩) n n) n xs) : ∃ L : List Value, L.length = n ∧ w.heap[g]? = some (.cells L.toArray e (0, 0)) := by
  rcases h.2 with ⟨h1, _⟩ | ⟨g', cap, cur, h1, _, hh, _, _, hc, _⟩
  · cases h1
  · injection h1 with h1 _ h3
    injection h1 with h1
    injection h1 with h1 _ _
    subst h1; subst h3
    exact ⟨cur.toList, by simpa using hc, by simpa using hh⟩
theorem cell_is {w : World} {g j : Nat} {L : List Value} {t : TypeId} (h : w.heap[g]? = some (.cells L.toArray t (0, 0))) (hj : j < L.length) : ∃ u, w.cell? ⟨g, j, none⟩ = some u := by
  refine ⟨L[j], ?_⟩
  rw [Lib.cell_of_heap h]
  simp [hj]
theorem set2_take {L : List Value} {i : Nat} {a b : Value} (h : i + 2 ≤ L.length) : ((L.set i a).set (i + 1) b).take (i + 2) = L.take i ++ [a, b] := by
  apply List.ext_getElem?
  intro j
  by_cases h0 : j < i
  · rw [List.getElem?_append_left (by simp; omega)]
    simp [show ¬ i = j by omega, show ¬ i + 1 = j by omega, h0, show j < i + 2 by omega]
  · obtain ⟨m, rfl⟩ : ∃ m, j = i + m := ⟨j - i, by omega⟩
    rw [List.getElem?_append_right (by simp; omega), show i + m - (L.take i).length = m by simp; omega]
    match m with
    | 0 => simp [List.getElem?_set]; omega
    | 1 => simp [List.getElem?_set]; omega
    | n + 2 => simp [List.getElem?_take]; omega
theorem set1_take {L : List Value} {i : Nat} {a : Value} (h : i + 1 ≤ L.length) : (L.set i a).take (i + 1) = L.take i ++ [a] := by
  apply List.ext_getElem?
  intro j
  by_cases h0 : j < i
  · rw [List.getElem?_append_left (by simp; omega)]
    simp [show ¬ i = j by omega, h0, show j < i + 1 by omega]
  · obtain ⟨m, rfl⟩ : ∃ m, j = i + m := ⟨j - i, by omega⟩
    rw [List.getElem?_append_right (by simp; omega), show i + m - (L.take i).length = m by simp; omega]
    match m with
    | 0 => simp [List.getElem?_set]; omega
    | n + 1 => simp [List.getElem?_take]
end Go.Proofs.YtimlnbfalnkmhaaGreatDoor

/-
  What a Def holds. Of no function.
-/
namespace Go.Proofs.YtimlnbfalnkmhaaGreatDoor
open Go.RowKit

abbrev defV (a1 a2 : Option Addr) (k1 k2 : Nat) (ss : List ByteArray) (fs : List Pr) : Value := .agg #[.slice a1 ss.length k1, .slice a2 fs.length k2]
/-- What a Def's rows, a State's rows hold. -/
structure DefSl (w : World) (a1 a2 : Option Addr) (k1 k2 : Nat) (ss : List ByteArray) (fs : List Pr) : Prop where
  h1 : StrSl w (.slice a1 ss.length k1) ss
  h2 : PrSl w (.slice a2 fs.length k2) fs
  l1 : ∀ g o, a1 = some ⟨g, o, none⟩ → g < w.heap.size
  l2 : ∀ g o, a2 = some ⟨g, o, none⟩ → g < w.heap.size
theorem DefSl.stay {w w' : World} {a1 a2 : Option Addr} {k1 k2 : Nat} {ss : List ByteArray} {fs : List Pr} (h : DefSl w a1 a2 k1 k2 ss fs) (hb : Below w.heap.size w w') : DefSl w' a1 a2 k1 k2 ss fs := ⟨h.h1.stay hb (Nat.le_refl _), h.h2.stay hb (Nat.le_refl _), fun g o e => Nat.lt_of_lt_of_le (h.l1 g o e) hb.size, fun g o e => Nat.lt_of_lt_of_le (h.l2 g o e) hb.size⟩
end Go.Proofs.YtimlnbfalnkmhaaGreatDoor

/-
  Draws: a Def amid its draw: the source, the Def in its box, its rows. Of no function.
-/
namespace Go.Proofs.YtimlnbfalnkmhaaGreatDoor
open Go.RowKit

theorem Drw.chg {p : Nat → Prop} {w w' : World} {b n : Nat} {V : Value} (h : Drw w b V n) (hc : Chg p w w') (hp : ∀ k, p k → b < k) : Drw w' b V n := by
  refine ⟨h.src.of_block (hc.block b h.src.lt (fun e => by have := hp b e; omega)), ?_, h.far⟩
  obtain ⟨a, c, rfl, hn, hb⟩ := h.bs
  refine ⟨a, c, rfl, hn, fun i hi => ?_⟩
  obtain ⟨g, o, x, rfl, hg1, hx1, hx⟩ := hb i hi
  have hgb := h.far g o c rfl (by omega)
  exact ⟨g, o, x, rfl, Nat.lt_of_lt_of_le hg1 hc.size, by rw [hc.cell hg1 (fun e => by have := hp g e; omega)]; exact hx1, hx⟩
theorem grown_chg {p : Nat → Prop} {w w1 w2 : World} {r : Option Nat} (h : w.grownBy w1 r) (hc : Chg p w1 w2) (hp : ∀ k, p k → w.heap.size ≤ k) : w.grownBy w2 r :=
  ⟨hc.os.trans h.os, hc.tape.trans h.tape, hc.output.trans h.output, Nat.le_trans h.size hc.size, fun k hk hr => (hc.block k (Nat.lt_of_lt_of_le hk h.size) (fun e => by have := hp k e; omega)).trans (h.block k hk hr)⟩
theorem grownChg {w w' : World} {r : Option Nat} (h : w.grownBy w' r) : Chg (fun j => r = some j) w w' := ⟨h.os, h.tape, h.output, h.size, fun k hk hp => h.block k hk (fun e => hp e.symm)⟩
/-- Short texts. -/
def ShD (ss : List ByteArray) (fs : List Pr) : Prop := (∀ s ∈ ss, s.size ≤ 1) ∧ ∀ f ∈ fs, f.fst.size ≤ 1 ∧ f.snd.size ≤ 1
/-- Amid the draw of a Def. -/
structure MdD (w W : World) (b g n : Nat) (V u1 u2 : Value) (ss : List ByteArray) (fs : List Pr) : Prop where
  dr : Drw W b V n
  hd : W.heap[g]? = some (.cells [u1, u2].toArray 86 (0, 0))
  hr : W.heap[w.heap.size]? = some (.cells [.slice none 0 0, .slice none 0 0].toArray 86 (0, 0))
  o1 : W.ownsRow (w.heap.size + 1) 9 1 u1 ss.length (ss.map Value.string)
  o2 : W.ownsRow (w.heap.size + 1) 179 2 u2 fs.length (fs.flatMap Pr.cells)
  gr : w.grownBy W (some b)
  hg : w.heap.size < g
  hb : b < w.heap.size
  sh : ShD ss fs
theorem MdD.call {w W W' : World} {b g n : Nat} {V u1 u2 : Value} {ss : List ByteArray} {fs : List Pr} (h : MdD w W b g n V u1 u2 ss fs) (hd : Drw W' b V n) (hg : W.grownBy W' (some b)) : MdD w W' b g n V u1 u2 ss fs :=
  ⟨hd, (hg.block g (lt_heap h.hd) (by simp; have := h.hg; have := h.hb; omega)).trans h.hd, (hg.block _ (lt_heap h.hr) (by simp; have := h.hb; omega)).trans h.hr, own_kept h.o1 (by have := h.hb; omega) hg, own_kept h.o2 (by have := h.hb; omega) hg, grown_trans h.gr hg, h.hg, h.hb, h.sh⟩
theorem MdD.below {w W W' : World} {b g n : Nat} {V u1 u2 : Value} {ss : List ByteArray} {fs : List Pr} (h : MdD w W b g n V u1 u2 ss fs) (hg : Below W.heap.size W W') : MdD w W' b g n V u1 u2 ss fs :=
  h.call (h.dr.below hg) (grown_below hg)
/-- Blocks that are none of its own turn. -/
theorem MdD.turn {p : Nat → Prop} {w W W' : World} {b g n : Nat} {V u1 u2 : Value} {ss : List ByteArray} {fs : List Pr} (h : MdD w W b g n V u1 u2 ss fs) (hc : Chg p W W') (hp : ∀ k, p k → w.heap.size < k ∧ k ≠ g) (h1 : ∀ k, u1.ownBlock = some k → ¬ p k) (h2 : ∀ k, u2.ownBlock = some k → ¬ p k) : MdD w W' b g n V u1 u2 ss fs :=
  ⟨h.dr.chg hc (fun k hk => by have := (hp k hk).1; have := h.hb; omega), (hc.block g (lt_heap h.hd) (fun e => (hp g e).2 rfl)).trans h.hd, (hc.block _ (lt_heap h.hr) (fun e => by have := (hp _ e).1; omega)).trans h.hr, own_chg h.o1 hc h1, own_chg h.o2 hc h2, grown_chg h.gr hc (fun k hk => by have := (hp k hk).1; omega), h.hg, h.hb, h.sh⟩
/-- Its steps are laid anew. -/
theorem MdD.set1 {w W W' : World} {b g n : Nat} {V u1 u2 v : Value} {ss ss' : List ByteArray} {fs : List Pr} (h : MdD w W b g n V u1 u2 ss fs) (hc : Chg (fun j => u1.ownBlock = some j) W W') (ho : W'.ownsRow (w.heap.size + 1) 9 1 v ss'.length (ss'.map Value.string)) (hs : ∀ s ∈ ss', s.size ≤ 1) : MdD w (W'.setCell ⟨g, 0, none⟩ v) b g n V v u2 ss' fs := by
  have hd' := (hc.block g (lt_heap h.hd) (fun e => own_ne h.o1 h.hd (by decide) g e rfl)).trans h.hd
  have hr' := (hc.block _ (lt_heap h.hr) (fun e => own_ne h.o1 h.hr (by decide) _ e rfl)).trans h.hr
  have o2' := own_chg h.o2 hc (fun k hk e => apart_ty h.o1 h.o2 (by decide) k e hk)
  have hc2 : Chg (fun j => j = g) W' (W'.setCell ⟨g, 0, none⟩ v) := Chg.of_grown (grown_set W' g 0 v) rfl
  refine ⟨(h.dr.chg hc (fun k hk => by have := (own_lt h.o1 k hk).1; have := h.hb; omega)).chg hc2 (fun k hk => by subst hk; have := h.hg; have := h.hb; omega), blk_set (i := 0) hd' v, (hc2.block _ (lt_heap hr') (fun e => by have := h.hg; omega)).trans hr', own_chg ho hc2 (own_ne ho hd' (by decide)), own_chg o2' hc2 (own_ne o2' hd' (by decide)), grown_chg (grown_chg h.gr hc (fun k hk => by have := (own_lt h.o1 k hk).1; omega)) hc2 (fun k hk => by subst hk; have := h.hg; omega), h.hg, h.hb, ⟨hs, h.sh.2⟩⟩
/-- Its flows are laid anew. -/
theorem MdD.set2 {w W W' : World} {b g n : Nat} {V u1 u2 v : Value} {ss : List ByteArray} {fs fs' : List Pr} (h : MdD w W b g n V u1 u2 ss fs) (hc : Chg (fun j => u2.ownBlock = some j) W W') (ho : W'.ownsRow (w.heap.size + 1) 179 2 v fs'.length (fs'.flatMap Pr.cells)) (hs : ∀ f ∈ fs', f.fst.size ≤ 1 ∧ f.snd.size ≤ 1) : MdD w (W'.setCell ⟨g, 1, none⟩ v) b g n V u1 v ss fs' := by
  have hd' := (hc.block g (lt_heap h.hd) (fun e => own_ne h.o2 h.hd (by decide) g e rfl)).trans h.hd
  have hr' := (hc.block _ (lt_heap h.hr) (fun e => own_ne h.o2 h.hr (by decide) _ e rfl)).trans h.hr
  have o1' := own_chg h.o1 hc (fun k hk e => apart_ty h.o1 h.o2 (by decide) k hk e)
  have hc2 : Chg (fun j => j = g) W' (W'.setCell ⟨g, 1, none⟩ v) := Chg.of_grown (grown_set W' g 1 v) rfl
  refine ⟨(h.dr.chg hc (fun k hk => by have := (own_lt h.o2 k hk).1; have := h.hb; omega)).chg hc2 (fun k hk => by subst hk; have := h.hg; have := h.hb; omega), blk_set (i := 1) hd' v, (hc2.block _ (lt_heap hr') (fun e => by have := h.hg; omega)).trans hr', own_chg o1' hc2 (own_ne o1' hd' (by decide)), own_chg ho hc2 (own_ne ho hd' (by decide)), grown_chg (grown_chg h.gr hc (fun k hk => by have := (own_lt h.o2 k hk).1; omega)) hc2 (fun k hk => by subst hk; have := h.hg; omega), h.hg, h.hb, ⟨h.sh.1, hs⟩⟩
theorem own_some {w : World} {base size n c : Nat} {e : TypeId} {a : Option Addr} {xs : List Value} (h : w.ownsRow base e size (.slice a n c) n xs) (h0 : 0 < n) : ∃ g, a = some ⟨g, 0, none⟩ := by
  rcases h.2 with ⟨hv, rfl⟩ | ⟨g, cap, cur, hv, _⟩
  · omega
  · injection hv with hv; exact ⟨g, hv⟩
theorem MdD.cells {w W : World} {b g n : Nat} {V u1 u2 : Value} {ss : List ByteArray} {fs : List Pr} (h : MdD w W b g n V u1 u2 ss fs) : W.cell? ⟨g, 0, none⟩ = some u1 ∧ W.cell? ⟨g, 1, none⟩ = some u2 :=
  ⟨by rw [Lib.cell_of_heap h.hd]; rfl, by rw [Lib.cell_of_heap h.hd]; rfl⟩
/-- A Def that was drawn: its rows are the call's own. -/
structure DfDr (w W : World) (b n : Nat) (V u1 u2 : Value) (ss : List ByteArray) (fs : List Pr) : Prop where
  dr : Drw W b V n
  o1 : W.ownsRow w.heap.size 9 1 u1 ss.length (ss.map Value.string)
  o2 : W.ownsRow w.heap.size 179 2 u2 fs.length (fs.flatMap Pr.cells)
  gr : w.grownBy W (some b)
  len : ss.length ≤ 5 ∧ fs.length ≤ 10
  sh : ShD ss fs
/-- The end: the Def laid into the answer's block. -/
theorem MdD.fin {w W : World} {b g n : Nat} {V u1 u2 : Value} {ss : List ByteArray} {fs : List Pr} (h : MdD w W b g n V u1 u2 ss fs) (hl : ss.length ≤ 5 ∧ fs.length ≤ 10) (x1 x2 : Value) : DfDr w ((W.setCell ⟨w.heap.size, 0, none⟩ x1).setCell ⟨w.heap.size, 1, none⟩ x2) b n V u1 u2 ss fs := by
  have hc : Chg (fun j => j = w.heap.size) W ((W.setCell ⟨w.heap.size, 0, none⟩ x1).setCell ⟨w.heap.size, 1, none⟩ x2) := (Chg.of_grown (p := fun j => j = w.heap.size) (grown_set W w.heap.size 0 x1) rfl).trans (Chg.of_grown (grown_set _ w.heap.size 1 x2) rfl)
  exact ⟨h.dr.chg hc (fun k hk => by subst hk; exact h.hb), ownB_le (own_chg h.o1 hc (own_ne h.o1 h.hr (by decide))) (by omega), ownB_le (own_chg h.o2 hc (own_ne h.o2 h.hr (by decide))) (by omega), grown_chg h.gr hc (fun k hk => by omega), hl, h.sh⟩
end Go.Proofs.YtimlnbfalnkmhaaGreatDoor
