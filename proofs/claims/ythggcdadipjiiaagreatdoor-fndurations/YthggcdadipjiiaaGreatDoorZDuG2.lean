/-
  Texts put together: DuG, DuR.
-/
import Derived.Test.YthggcdadipjiiaaGreatDoorZDuE3
import Derived.Test.YthggcdadipjiiaaGreatDoorZSpStA5
import Derived.Test.YthggcdadipjiiaaGreatDoorZSpOut6
import Derived.Test.YthggcdadipjiiaaGreatDoorZSpDo24
/-
  How long steps lasted in a history: what one event more does to what is taken and told. Of no function.
-/
namespace Go.Proofs.YthggcdadipjiiaaGreatDoor
open Go.RowKit Go.Sort
set_option linter.unusedVariables false

theorem tkn_at {es : List Ev} {k : Nat} (hk : k < es.length) (i : Nat) : tkn es i k = decide (k < i ∧ es[k].kind = 2 ∧ nK 2 es[k].run es[k].step (es.take k) < nK 3 es[k].run es[k].step (es.take i)) := by
  unfold tkn; rw [List.getElem?_eq_getElem hk]
theorem tkn_stay {ss : List ByteArray} {fs : List Pr} {es : List Ev} (h : HistP ss fs es) {i : Nat} (hi : i < es.length) (h3 : es[i].kind ≠ 3) {k : Nat} (hk : k < es.length) : tkn es (i + 1) k = tkn es i k := by
  rw [tkn_at hk, tkn_at hk]
  have e3 : nK 3 es[k].run es[k].step (es.take (i + 1)) = nK 3 es[k].run es[k].step (es.take i) := by
    rw [nK_succ hi, if_neg (by simp [isK, h3])]; omega
  rw [e3]
  by_cases q : k = i
  · subst q
    have := h.bal k es[k].run es[k].step
    have a1 : ¬ (k < k + 1 ∧ es[k].kind = 2 ∧ nK 2 es[k].run es[k].step (es.take k) < nK 3 es[k].run es[k].step (es.take k)) := fun a => by omega
    have a2 : ¬ (k < k ∧ es[k].kind = 2 ∧ nK 2 es[k].run es[k].step (es.take k) < nK 3 es[k].run es[k].step (es.take k)) := fun a => by omega
    rw [decide_eq_false a1, decide_eq_false a2]
  · have : (k < i + 1) ↔ k < i := by omega
    simp only [this]
/-- The enter that a leave takes. -/
theorem leave_k {ss : List ByteArray} {fs : List Pr} {es : List Ev} (h : HistP ss fs es) {i : Nat} (hi : i < es.length) (h3 : es[i].kind = 3) : ∃ k, ∃ hk : k < es.length, k < i ∧ es[k].kind = 2 ∧ es[k].run = es[i].run ∧ es[k].step = es[i].step ∧ nK 2 es[i].run es[i].step (es.take k) = nK 3 es[i].run es[i].step (es.take i) := by
  have hb := h.bal (i + 1) es[i].run es[i].step
  rw [nK_succ hi, nK_succ hi, if_pos (by simp [isK, h3]), if_neg (by simp [isK, h3])] at hb
  obtain ⟨k, hk, h1, h2, h4⟩ := find_k (es := es) (r := es[i].run) (s := es[i].step) (L := nK 3 es[i].run es[i].step (es.take i)) i (by omega) (by omega)
  simp only [isK, decide_eq_true_eq] at h2
  exact ⟨k, hk, h1, h2.1, h2.2.1, h2.2.2, h4⟩
/-- Those of its like ahead of it are taken; it isn't. -/
theorem leave_first {es : List Ev} {i k0 : Nat} (hi : i < es.length) (hk0 : k0 < es.length) (h0 : k0 < i) (h2 : es[k0].kind = 2) (hr : es[k0].run = es[i].run) (hs : es[k0].step = es[i].step) (hL : nK 2 es[i].run es[i].step (es.take k0) = nK 3 es[i].run es[i].step (es.take i)) :
    tkn es i k0 = false ∧ ∀ k, k < k0 → (hk : k < es.length) → es[k].kind = 2 → es[k].run = es[i].run → es[k].step = es[i].step → tkn es i k = true := by
  constructor
  · rw [tkn_at hk0, hr, hs, hL]
    exact decide_eq_false (fun a => by omega)
  · intro k hkk hk a1 a2 a3
    rw [tkn_at hk, a2, a3]
    have m := nK_mono es 2 es[i].run es[i].step (show k + 1 ≤ k0 by omega)
    rw [nK_succ hk, if_pos (by simp [isK, a1, a2, a3])] at m
    exact decide_eq_true ⟨by omega, a1, by omega⟩
theorem tkn_leave {ss : List ByteArray} {fs : List Pr} {es : List Ev} (h : HistP ss fs es) {i k0 : Nat} (hi : i < es.length) (h3 : es[i].kind = 3) (hk0 : k0 < es.length) (h0 : k0 < i) (h2 : es[k0].kind = 2) (hr : es[k0].run = es[i].run) (hs : es[k0].step = es[i].step) (hL : nK 2 es[i].run es[i].step (es.take k0) = nK 3 es[i].run es[i].step (es.take i)) {k : Nat} (hk : k < es.length) : tkn es (i + 1) k = if k = k0 then true else tkn es i k := by
  by_cases q : k = k0
  · subst q
    rw [if_pos rfl, tkn_at hk, hr, hs, hL, nK_succ hi, if_pos (by simp [isK, h3])]
    exact decide_eq_true ⟨by omega, h2, by omega⟩
  · rw [if_neg q, tkn_at hk, tkn_at hk, nK_succ hi]
    by_cases a : es[i].run = es[k].run ∧ es[i].step = es[k].step
    · rw [if_pos (by simp [isK, h3, a.1, a.2])]
      obtain ⟨a1, a2⟩ := a
      by_cases a3 : es[k].kind = 2
      · have hkn : k ≠ i := fun e => by subst e; omega
        have hne : nK 2 es[k].run es[k].step (es.take k) ≠ nK 3 es[k].run es[k].step (es.take i) := by
          rw [← a1, ← a2, ← hL]
          intro e
          rcases Nat.lt_or_gt_of_ne q with c | c
          · have m := nK_mono es 2 es[i].run es[i].step (show k + 1 ≤ k0 by omega)
            rw [nK_succ hk, if_pos (by simp [isK, a3, a1, a2])] at m
            omega
          · have m := nK_mono es 2 es[i].run es[i].step (show k0 + 1 ≤ k by omega)
            rw [nK_succ hk0, if_pos (by simp [isK, h2, hr, hs])] at m
            omega
        exact decide_eq_decide.2 ⟨fun a => ⟨by omega, a3, by omega⟩, fun a => ⟨by omega, a3, by omega⟩⟩
      · simp [a3]
    · rw [if_neg (by simp only [isK, decide_eq_true_eq]; exact fun b => a ⟨b.2.1, b.2.2⟩), Nat.add_zero]
      by_cases a3 : es[k].kind = 2
      · have hkn : k ≠ i := fun e => by subst e; omega
        exact decide_eq_decide.2 ⟨fun a => ⟨by omega, a3, by omega⟩, fun a => ⟨by omega, a3, by omega⟩⟩
      · simp [a3]
theorem dursI_stay {es : List Ev} {i : Nat} (hi : i < es.length) (h3 : es[i].kind ≠ 3) : dursI es (i + 1) = dursI es i := by
  unfold dursI
  show (outs es i ++ outE es i).foldl _ _ = _
  have : outE es i = [] := by unfold outE; rw [List.getElem?_eq_getElem hi]; simp [h3]
  rw [this, List.append_nil]
theorem dursI_leave {es : List Ev} {i k0 : Nat} (hi : i < es.length) (h3 : es[i].kind = 3) (hk0 : k0 < es.length) (h2 : es[k0].kind = 2) (hr : es[k0].run = es[i].run) (hs : es[k0].step = es[i].step) (hL : nK 2 es[i].run es[i].step (es.take k0) = nK 3 es[i].run es[i].step (es.take i)) : dursI es (i + 1) = addD (dursI es i) es[i].step (es[i].time - es[k0].time) := by
  unfold dursI
  show (outs es i ++ outE es i).foldl _ _ = _
  have : outE es i = [(es[i].run, es[i].step, es[i].time - es[k0].time)] := by
    unfold outE; rw [List.getElem?_eq_getElem hi]
    simp only [h3, if_true]
    rw [← hL, ents_at hk0 (by simp [isK, h2, hr, hs])]
  rw [this, List.foldl_append]
  rfl
/-- How large what is told may be. -/
theorem addD_len (l : List Dur) (s : ByteArray) (n : Int) : (addD l s n).length ≤ l.length + 1 := by
  induction l with
  | nil => simp [addD]
  | cons d r ih =>
    unfold addD
    split
    · simp; omega
    · split
      · simp
      · simp
theorem dursI_len (es : List Ev) (i : Nat) : (dursI es i).length ≤ i := by
  induction i with
  | zero => simp [dursI, outs]
  | succ i ih =>
    unfold dursI at ih ⊢
    show (List.foldl (fun o t => addD o t.2.1 t.2.2) [] (outs es i ++ outE es i)).length ≤ _
    rw [List.foldl_append]
    unfold outE
    cases es[i]? with
    | none => simpa using Nat.le_succ_of_le ih
    | some e =>
      by_cases hk : e.kind = 3
      · simp only [hk, if_true, List.foldl_cons, List.foldl_nil]
        exact Nat.le_trans (addD_len _ _ _) (by omega)
      · simp only [hk, if_false, List.foldl_nil]; omega
end Go.Proofs.YthggcdadipjiiaaGreatDoor

/-
  Rows of what is told of steps, in memory. Of no function.
-/
namespace Go.Proofs.YthggcdadipjiiaaGreatDoor
open Go.RowKit Go.Sort
set_option linter.unusedVariables false

def dflat (l : List Dur) : List Value := l.flatMap Dur.cells
theorem dflat_len (l : List Dur) : (dflat l).length = l.length * 5 := by
  unfold dflat
  induction l with
  | nil => rfl
  | cons e r ih => rw [List.flatMap_cons, List.length_append, ih]; simp [Dur.cells]; omega
theorem dflat_at : ∀ (l : List Dur) (i j : Nat), (h : i < l.length) → j < 5 → (dflat l)[i * 5 + j]? = l[i].cells[j]?
  | [], i, _, h, _ => absurd h (by simp)
  | e :: r, 0, j, _, hj => by
    unfold dflat
    rw [List.flatMap_cons, List.getElem?_append_left (by simpa [Dur.cells] using hj)]
    simp
  | e :: r, i + 1, j, h, hj => by
    have hi : i < r.length := by simpa using h
    have h5 : e.cells.length = 5 := rfl
    have := dflat_at r i j hi hj
    unfold dflat at this ⊢
    rw [List.flatMap_cons, List.getElem?_append_right (by omega), h5, show (i + 1) * 5 + j - 5 = i * 5 + j by omega, this]
    simp
theorem dflat_drop (l : List Dur) (k : Nat) (h : k ≤ l.length) : dflat (l.drop k) = (dflat l).drop (k * 5) := by
  have e : dflat l = dflat (l.take k) ++ dflat (l.drop k) := by unfold dflat; rw [← List.flatMap_append, List.take_append_drop]
  have hl : (dflat (l.take k)).length = k * 5 := by rw [dflat_len, List.length_take]; omega
  rw [e, ← hl, List.drop_left]
theorem dflat_take (l : List Dur) (k : Nat) (h : k ≤ l.length) : dflat (l.take k) = (dflat l).take (k * 5) := by
  have e : dflat l = dflat (l.take k) ++ dflat (l.drop k) := by unfold dflat; rw [← List.flatMap_append, List.take_append_drop]
  have hl : (dflat (l.take k)).length = k * 5 := by rw [dflat_len, List.length_take]; omega
  rw [e, ← hl, List.take_left]
theorem dflat_one (l : List Dur) : ∀ u ∈ dflat l, u.oneCell' = true := by
  intro u hu
  obtain ⟨p, _, hp⟩ := List.mem_flatMap.1 hu
  simp [Dur.cells] at hp
  rcases hp with rfl | rfl | rfl | rfl | rfl <;> rfl
def DursAt (w : World) (g o : Nat) (l : List Dur) : Prop := g < w.heap.size ∧ ∀ j u, (dflat l)[j]? = some u → w.cell? ⟨g, o + j, none⟩ = some u
def DurSl (w : World) (v : Value) (l : List Dur) : Prop :=
  (∃ a c, v = .slice a 0 c ∧ l = []) ∨ ∃ g o c, v = .slice (some ⟨g, o, none⟩) l.length c ∧ (0 < l.length ∧ l.length ≤ c) ∧ DursAt w g o l
theorem DursAt.stay {w w' : World} {B g o : Nat} {l : List Dur} (h : DursAt w g o l) (hb : Below B w w') (hB : w.heap.size ≤ B) : DursAt w' g o l :=
  ⟨Nat.lt_of_lt_of_le h.1 hb.size, fun j u hj => by rw [hb.cell (p := ⟨g, o + j, none⟩) (Nat.lt_of_lt_of_le h.1 hB)]; exact h.2 j u hj⟩
theorem DurSl.stay {w w' : World} {B : Nat} {v : Value} {l : List Dur} (h : DurSl w v l) (hb : Below B w w') (hB : w.heap.size ≤ B) : DurSl w' v l := by
  rcases h with h | ⟨g, o, c, hv, hn, h⟩
  · exact .inl h
  · exact .inr ⟨g, o, c, hv, hn, h.stay hb hB⟩
theorem DurSl.row {w : World} {a : Option Addr} {n c : Nat} {l : List Dur} (h : DurSl w (.slice a n c) l) (h0 : 0 < l.length) : ∃ g o, a = some ⟨g, o, none⟩ ∧ DursAt w g o l := by
  rcases h with ⟨_, _, _, rfl⟩ | ⟨g, o, _, hv, _, h⟩
  · simp at h0
  · injection hv with h1 _ _; exact ⟨g, o, h1, h⟩
theorem DurSl.cap {w : World} {a : Option Addr} {n c : Nat} {l : List Dur} (h : DurSl w (.slice a n c) l) : l.length ≤ c := by
  rcases h with ⟨_, _, _, rfl⟩ | ⟨_, _, _, hv, hn, _⟩
  · exact Nat.zero_le _
  · injection hv with _ _ h3; rw [h3]; exact hn.2
theorem DursAt.el {w : World} {g o : Nat} {l : List Dur} (h : DursAt w g o l) {k : Nat} (hk : k < l.length) : w.cell? ⟨g, o + k * 5, none⟩ = some (.string l[k].step) ∧ w.cell? ⟨g, o + k * 5 + 1, none⟩ = some (.int .i64 l[k].count) ∧ w.cell? ⟨g, o + k * 5 + 2, none⟩ = some (.int .i64 l[k].sum) ∧ w.cell? ⟨g, o + k * 5 + 3, none⟩ = some (.int .i64 l[k].least) ∧ w.cell? ⟨g, o + k * 5 + 4, none⟩ = some (.int .i64 l[k].most) := by
  have key : ∀ j u, j < 5 → l[k].cells[j]? = some u → w.cell? ⟨g, o + k * 5 + j, none⟩ = some u := fun j u hj hu => by
    have := h.2 (k * 5 + j) u (by rw [dflat_at l k j hk hj]; exact hu)
    rwa [← Nat.add_assoc] at this
  exact ⟨key 0 _ (by decide) rfl, key 1 _ (by decide) rfl, key 2 _ (by decide) rfl, key 3 _ (by decide) rfl, key 4 _ (by decide) rfl⟩
/-- All of it, its head, its rest, as cells to be appended. -/
theorem DurSl.cellsSl {w : World} {v : Value} {l : List Dur} (h : DurSl w v l) : CellsSl w v 5 l.length (dflat l) := by
  refine ⟨dflat_len l, dflat_one l, ?_⟩
  rcases h with ⟨a, c, rfl, rfl⟩ | ⟨g, o, c, rfl, _, h⟩
  · rcases a with _ | ad
    · exact .inl ⟨c, rfl, rfl⟩
    · exact .inr ⟨ad, c, rfl, fun j u hj => by simp [dflat] at hj⟩
  · exact .inr ⟨⟨g, o, none⟩, c, rfl, fun j u hj => by rw [Addr.add_lit]; exact h.2 j u hj⟩
theorem DursAt.headC {w : World} {g o : Nat} {l : List Dur} (h : DursAt w g o l) {k : Nat} (hk : k ≤ l.length) (c : Nat) : CellsSl w (.slice (some ⟨g, o, none⟩) k c) 5 k (dflat (l.take k)) := by
  refine ⟨by rw [dflat_len, List.length_take]; omega, dflat_one _, .inr ⟨_, c, rfl, fun j u hj => ?_⟩⟩
  rw [Addr.add_lit]
  rw [dflat_take l k hk] at hj
  rw [List.getElem?_take] at hj
  split at hj
  · exact h.2 j u hj
  · cases hj
theorem DursAt.allC {w : World} {g o : Nat} {l : List Dur} (h : DursAt w g o l) (c : Nat) : CellsSl w (.slice (some ⟨g, o, none⟩) l.length c) 5 l.length (dflat l) := by
  have := h.headC (Nat.le_refl l.length) c
  rwa [List.take_length] at this
theorem DursAt.restC {w : World} {g o : Nat} {l : List Dur} (h : DursAt w g o l) {k : Nat} (hk : k ≤ l.length) (c : Nat) (A : Option Addr) (hA : A = if c = k then some ⟨g, o, none⟩ else some ⟨g, o + k * 5, none⟩) (hc : l.length ≤ c) (m : Nat) : CellsSl w (.slice A (l.length - k) m) 5 (l.length - k) (dflat (l.drop k)) := by
  subst hA
  refine ⟨by rw [dflat_len, List.length_drop], dflat_one _, ?_⟩
  by_cases e : c = k
  · rw [if_pos e]
    exact .inr ⟨_, m, rfl, fun j u hj => by rw [List.drop_eq_nil_of_le (by omega)] at hj; simp [dflat] at hj⟩
  · rw [if_neg e]
    refine .inr ⟨_, m, rfl, fun j u hj => ?_⟩
    rw [Addr.add_lit]
    rw [dflat_drop l k hk, List.getElem?_drop] at hj
    have := h.2 _ u hj
    rwa [← Nat.add_assoc] at this
/-- One cell of a row of one's own set. -/
theorem own_setc {w : World} {base size g c n i : Nat} {e : TypeId} {xs : List Value} (h : w.ownsRow base e size (.slice (some ⟨g, 0, none⟩) n c) n xs) (u : Value) : (w.setCell ⟨g, i, none⟩ u).ownsRow base e size (.slice (some ⟨g, 0, none⟩) n c) n (xs.set i u) := by
  have hx := h.1
  rcases h.2 with ⟨h0, _⟩ | ⟨g', cap, cur, hv, hb, hh, hle, hcm, hcs, hct⟩
  · cases h0
  · injection hv with e1 _ e3
    injection e1 with e1
    injection e1 with e1 _
    subst e1; subst e3
    have hh' : w.heap[g]? = some (.cells cur.toList.toArray e (0, 0)) := by simpa using hh
    have h2 := blk_set (i := i) hh' u
    refine ⟨by simpa using hx, .inr ⟨g, c, _, rfl, hb, h2, hle, hcm, by simpa using hcs, ?_⟩⟩
    rw [List.toList_toArray, ← hct, List.take_set]
/-- Its block's cells. -/
theorem own_cellf {w : World} {base size g c n : Nat} {e : TypeId} {xs : List Value} (h : w.ownsRow base e size (.slice (some ⟨g, 0, none⟩) n c) n xs) : (∀ i u, xs[i]? = some u → w.cell? ⟨g, i, none⟩ = some u) ∧ ∀ j, w.frozen? ⟨g, j, none⟩ = false := by
  refine ⟨fun i u hu => by have := h.cells (g := g) rfl i u hu; rw [Addr.add_lit] at this; simpa using this, fun j => ?_⟩
  rcases h.2 with ⟨h0, _⟩ | ⟨g', cap, cur, hv, _, hh, _⟩
  · cases h0
  · injection hv with e1 _ e3
    injection e1 with e1
    injection e1 with e1 _
    subst e1
    exact Lib.frozen_of_heap hh j
theorem dflat_more (l : List Dur) (k : Nat) (h : k < l.length) (n : Int) : ((((dflat l).set (k * 5 + 1) (.int .i64 (l[k].count + 1))).set (k * 5 + 2) (.int .i64 (l[k].sum + n))).set (k * 5 + 3) (.int .i64 (minI l[k].least n))).set (k * 5 + 4) (.int .i64 (maxI l[k].most n)) = dflat (l.take k ++ l[k].more n :: l.drop (k + 1)) := by
  have e : dflat l = dflat (l.take k) ++ (l[k].cells ++ dflat (l.drop (k + 1))) := by
    have h3 : l = l.take k ++ l[k] :: l.drop (k + 1) := by rw [← List.drop_eq_getElem_cons h, List.take_append_drop]
    unfold dflat
    conv => lhs; rw [h3]
    rw [List.flatMap_append, List.flatMap_cons]
  have hl : (dflat (l.take k)).length = k * 5 := by rw [dflat_len, List.length_take]; omega
  rw [e]
  have e2 : dflat (l.take k ++ l[k].more n :: l.drop (k + 1)) = dflat (l.take k) ++ ((l[k].more n).cells ++ dflat (l.drop (k + 1))) := by unfold dflat; simp
  rw [e2]
  generalize dflat (l.take k) = P at *
  rw [← hl]
  simp [Dur.cells, Dur.more]
/-- addD, by the place. -/
theorem addD_at {s : ByteArray} {n : Int} : ∀ {l : List Dur} {k : Nat}, k ≤ l.length → (∀ j, j < k → (h : j < l.length) → lt l[j].step s = true) → ((h : k < l.length) → lt l[k].step s = false) → addD l s n = l.take k ++ (if h : k < l.length then (if l[k].step = s then l[k].more n :: l.drop (k + 1) else newD s n :: l.drop k) else [newD s n])
  | [], k, hk, _, _ => by
    have : k = 0 := by simpa using hk
    subst this; simp [addD]
  | d :: r, 0, _, _, h2 => by
    have := h2 (by simp)
    simp at this
    unfold addD
    rw [if_neg (by rw [this]; decide)]
    simp
  | d :: r, k + 1, hk, h1, h2 => by
    have h0 := h1 0 (by omega) (by simp)
    simp at h0
    unfold addD
    rw [if_pos h0, addD_at (l := r) (k := k) (by simpa using hk) (fun j hj h => h1 (j + 1) (by omega) (by simpa using h)) (fun h => h2 (by simpa using h))]
    simp
end Go.Proofs.YthggcdadipjiiaaGreatDoor
