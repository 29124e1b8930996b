/-
  Texts put together: Strs, StSz, PrSum, AggD.
-/
import Derived.Test.YthggcdadipjiiaaGreatDoorZAgg3
import Derived.OwnWalk
import Derived.DataReads
/-
  Rows of texts, and of pairs of texts, in memory: what it is that a slice holds them, and that it stays so. Of no function.
-/
namespace Go.Proofs.YthggcdadipjiiaaGreatDoor
open Go.RowKit

/-- A row of texts, from a place on. -/
def StrsAt (w : World) (g o : Nat) (ss : List ByteArray) : Prop := g < w.heap.size ∧ ∀ i, (h : i < ss.length) → w.cell? ⟨g, o + i, none⟩ = some (.string ss[i])
/-- What a slice of texts is: empty, or a row somewhere. -/
def StrSl (w : World) (v : Value) (ss : List ByteArray) : Prop :=
  (∃ a c, v = .slice a 0 c ∧ ss = []) ∨ ∃ g o c, v = .slice (some ⟨g, o, none⟩) ss.length c ∧ (0 < ss.length ∧ ss.length ≤ c) ∧ StrsAt w g o ss
theorem StrsAt.below {w w' : World} {B g o : Nat} {ss : List ByteArray} (h : StrsAt w g o ss) (hb : Below B w w') (hg : g < B) : StrsAt w' g o ss :=
  ⟨Nat.lt_of_lt_of_le h.1 hb.size, fun i hi => by rw [hb.cell (p := ⟨g, o + i, none⟩) hg]; exact h.2 i hi⟩
theorem StrsAt.stay {w w' : World} {B g o : Nat} {ss : List ByteArray} (h : StrsAt w g o ss) (hb : Below B w w') (hB : w.heap.size ≤ B) : StrsAt w' g o ss := h.below hb (Nat.lt_of_lt_of_le h.1 hB)
theorem StrSl.stay {w w' : World} {B : Nat} {v : Value} {ss : List ByteArray} (h : StrSl w v ss) (hb : Below B w w') (hB : w.heap.size ≤ B) : StrSl w' v ss := by
  rcases h with h | ⟨g, o, c, hv, hn, h⟩
  · exact .inl h
  · exact .inr ⟨g, o, c, hv, hn, h.stay hb hB⟩
theorem StrSl.form {w : World} {v : Value} {ss : List ByteArray} (h : StrSl w v ss) : ∃ a c, v = .slice a ss.length c := by
  rcases h with ⟨a, c, rfl, rfl⟩ | ⟨g, o, c, rfl, _, _⟩
  · exact ⟨a, c, rfl⟩
  · exact ⟨_, c, rfl⟩
/-- Its first k. -/
theorem StrSl.part {w : World} {a : Option Addr} {n c k : Nat} {ss : List ByteArray} (h : StrSl w (.slice a n c) ss) (hk : k ≤ ss.length) : StrSl w (.slice a k c) (ss.take k) := by
  by_cases h0 : k = 0
  · subst h0; exact .inl ⟨a, c, rfl, by simp⟩
  · rcases h with ⟨a', c', hv, rfl⟩ | ⟨g, o, c', hv, hn, hlt, h⟩
    · simp at hk; exact absurd hk h0
    · injection hv with h1 h2 h3
      subst h1; subst h3
      refine .inr ⟨g, o, c, by rw [List.length_take, Nat.min_eq_left hk], by rw [List.length_take]; omega, hlt, fun i hi => ?_⟩
      rw [List.getElem_take]
      exact h i (by rw [List.length_take] at hi; omega)
theorem str_of_own {w : World} {base n : Nat} {e : TypeId} {v : Value} {ss : List ByteArray} (h : w.ownsRow base e 1 v n (ss.map Value.string)) : StrSl w v ss := by
  have hn : n = ss.length := by have := h.1; rw [List.length_map] at this; omega
  subst hn
  rcases h.2 with ⟨hv, h0⟩ | ⟨g, cap, cur, hv, _, _, hle, _⟩
  · exact .inl ⟨none, 0, hv, List.eq_nil_of_length_eq_zero h0⟩
  · by_cases h0 : ss.length = 0
    · exact .inl ⟨some ⟨g, 0, none⟩, cap, by rw [hv, h0], List.eq_nil_of_length_eq_zero h0⟩
    · have hlt := (h.lt g (by rw [hv]; rfl)).2
      refine .inr ⟨g, 0, cap, hv, ⟨by omega, hle⟩, hlt, fun i hi => ?_⟩
      have := h.cells (g := g) (by rw [hv]; rfl) i (.string ss[i]) (by simp [hi])
      rw [Addr.add_lit] at this
      exact this

/-- A pair of texts: a flow, a var. -/
structure Pr where
  fst : ByteArray
  snd : ByteArray
def Pr.cells (p : Pr) : List Value := [.string p.fst, .string p.snd]
structure PrAt (w : World) (g o : Nat) (p : Pr) : Prop where
  c0 : w.cell? ⟨g, o, none⟩ = some (.string p.fst)
  c1 : w.cell? ⟨g, o + 1, none⟩ = some (.string p.snd)
def PrsAt (w : World) (g o : Nat) (ps : List Pr) : Prop := g < w.heap.size ∧ ∀ i, (h : i < ps.length) → PrAt w g (o + i * 2) ps[i]
def PrSl (w : World) (v : Value) (ps : List Pr) : Prop :=
  (∃ a c, v = .slice a 0 c ∧ ps = []) ∨ ∃ g o c, v = .slice (some ⟨g, o, none⟩) ps.length c ∧ (0 < ps.length ∧ ps.length ≤ c) ∧ PrsAt w g o ps
theorem PrAt.below {w w' : World} {B g o : Nat} {p : Pr} (h : PrAt w g o p) (hb : Below B w w') (hg : g < B) : PrAt w' g o p :=
  ⟨by rw [hb.cell (p := ⟨g, o, none⟩) hg]; exact h.c0, by rw [hb.cell (p := ⟨g, o + 1, none⟩) hg]; exact h.c1⟩
theorem PrsAt.stay {w w' : World} {B g o : Nat} {ps : List Pr} (h : PrsAt w g o ps) (hb : Below B w w') (hB : w.heap.size ≤ B) : PrsAt w' g o ps :=
  ⟨Nat.lt_of_lt_of_le h.1 hb.size, fun i hi => (h.2 i hi).below hb (Nat.lt_of_lt_of_le h.1 hB)⟩
theorem PrSl.stay {w w' : World} {B : Nat} {v : Value} {ps : List Pr} (h : PrSl w v ps) (hb : Below B w w') (hB : w.heap.size ≤ B) : PrSl w' v ps := by
  rcases h with h | ⟨g, o, c, hv, hn, h⟩
  · exact .inl h
  · exact .inr ⟨g, o, c, hv, hn, h.stay hb hB⟩
theorem PrSl.form {w : World} {v : Value} {ps : List Pr} (h : PrSl w v ps) : ∃ a c, v = .slice a ps.length c := by
  rcases h with ⟨a, c, rfl, rfl⟩ | ⟨g, o, c, rfl, _, _⟩
  · exact ⟨a, c, rfl⟩
  · exact ⟨_, c, rfl⟩
theorem PrSl.part {w : World} {a : Option Addr} {n c k : Nat} {ps : List Pr} (h : PrSl w (.slice a n c) ps) (hk : k ≤ ps.length) : PrSl w (.slice a k c) (ps.take k) := by
  by_cases h0 : k = 0
  · subst h0; exact .inl ⟨a, c, rfl, by simp⟩
  · rcases h with ⟨a', c', hv, rfl⟩ | ⟨g, o, c', hv, hn, hlt, h⟩
    · simp at hk; exact absurd hk h0
    · injection hv with h1 h2 h3
      subst h1; subst h3
      refine .inr ⟨g, o, c, by rw [List.length_take, Nat.min_eq_left hk], by rw [List.length_take]; omega, hlt, fun i hi => ?_⟩
      rw [List.getElem_take]
      exact h i (by rw [List.length_take] at hi; omega)
theorem StrSl.cap {w : World} {a : Option Addr} {n c : Nat} {ss : List ByteArray} (h : StrSl w (.slice a n c) ss) : ss.length ≤ c := by
  rcases h with ⟨_, _, _, rfl⟩ | ⟨_, _, _, hv, hn, _⟩
  · exact Nat.zero_le _
  · injection hv with _ _ h3; rw [h3]; exact hn.2
theorem PrSl.cap {w : World} {a : Option Addr} {n c : Nat} {ps : List Pr} (h : PrSl w (.slice a n c) ps) : ps.length ≤ c := by
  rcases h with ⟨_, _, _, rfl⟩ | ⟨_, _, _, hv, hn, _⟩
  · exact Nat.zero_le _
  · injection hv with _ _ h3; rw [h3]; exact hn.2
theorem StrSl.row {w : World} {a : Option Addr} {n c : Nat} {ss : List ByteArray} (h : StrSl w (.slice a n c) ss) (h0 : 0 < ss.length) : ∃ g o, a = some ⟨g, o, none⟩ ∧ StrsAt w g o ss := by
  rcases h with ⟨_, _, _, rfl⟩ | ⟨g, o, _, hv, _, h⟩
  · simp at h0
  · injection hv with h1 _ _; exact ⟨g, o, h1, h⟩
theorem PrSl.row {w : World} {a : Option Addr} {n c : Nat} {ps : List Pr} (h : PrSl w (.slice a n c) ps) (h0 : 0 < ps.length) : ∃ g o, a = some ⟨g, o, none⟩ ∧ PrsAt w g o ps := by
  rcases h with ⟨_, _, _, rfl⟩ | ⟨g, o, _, hv, _, h⟩
  · simp at h0
  · injection hv with h1 _ _; exact ⟨g, o, h1, h⟩
theorem pflat_at : ∀ (ps : List Pr) (i j : Nat), (h : i < ps.length) → j < 2 → (ps.flatMap Pr.cells)[i * 2 + j]? = ps[i].cells[j]?
  | [], i, _, h, _ => absurd h (by simp)
  | p :: r, 0, j, _, hj => by
    rw [List.flatMap_cons, List.getElem?_append_left (by simp [Pr.cells]; omega)]; simp
  | p :: r, i + 1, j, h, hj => by
    rw [List.flatMap_cons, List.getElem?_append_right (by simp [Pr.cells]; omega), show (i + 1) * 2 + j - p.cells.length = i * 2 + j by simp [Pr.cells]; omega]
    rw [pflat_at r i j (by simpa using h) hj]; simp
theorem pflat_len (ps : List Pr) : (ps.flatMap Pr.cells).length = ps.length * 2 := by
  induction ps with
  | nil => rfl
  | cons p r ih => rw [List.flatMap_cons, List.length_append, ih]; simp [Pr.cells]; omega
theorem pr_of_own {w : World} {base n : Nat} {e : TypeId} {v : Value} {ps : List Pr} (h : w.ownsRow base e 2 v n (ps.flatMap Pr.cells)) : PrSl w v ps := by
  have hn : n = ps.length := by have := h.1; rw [pflat_len] at this; omega
  subst hn
  rcases h.2 with ⟨hv, h0⟩ | ⟨g, cap, cur, hv, _, _, hle, _⟩
  · exact .inl ⟨none, 0, hv, List.eq_nil_of_length_eq_zero h0⟩
  · by_cases h0 : ps.length = 0
    · exact .inl ⟨some ⟨g, 0, none⟩, cap, by rw [hv, h0], List.eq_nil_of_length_eq_zero h0⟩
    · have hlt := (h.lt g (by rw [hv]; rfl)).2
      refine .inr ⟨g, 0, cap, hv, ⟨by omega, hle⟩, hlt, fun i hi => ?_⟩
      have key : ∀ j, j < 2 → ∀ u, ps[i].cells[j]? = some u → w.cell? ⟨g, 0 + i * 2 + j, none⟩ = some u := fun j hj u hu => by
        have := h.cells (g := g) (by rw [hv]; rfl) (i * 2 + j) u (by rw [pflat_at ps i j hi hj]; exact hu)
        rw [Addr.add_lit] at this
        simpa [Nat.add_assoc] using this
      exact ⟨key 0 (by decide) _ rfl, key 1 (by decide) _ rfl⟩
end Go.Proofs.YthggcdadipjiiaaGreatDoor

/-
  What laws.szStringS answers: how much is left behind so many texts: a contract over the seat's program.
-/
namespace Go.Proofs.YthggcdadipjiiaaGreatDoor
open Go.RowKit

def sumS : List ByteArray → Nat
  | [] => 0
  | s :: r => s.size + sumS r
theorem sumS_append (a b : List ByteArray) : sumS (a ++ b) = sumS a + sumS b := by
  induction a with
  | nil => simp [sumS]
  | cons e r ih => simp [sumS, ih]; omega
theorem sumS_take {ss : List ByteArray} {k : Nat} (h : k < ss.length) : sumS (ss.take (k + 1)) = sumS (ss.take k) + ss[k].size := by
  rw [List.take_succ_eq_append_getElem h, sumS_append]; simp [sumS]
theorem sumS_le (ss : List ByteArray) (k : Nat) : sumS (ss.take k) ≤ sumS ss := by
  have := sumS_append (ss.take k) (ss.drop k)
  rw [List.take_append_drop] at this; omega
def FitS (ss : List ByteArray) : Prop := ∀ i, (h : i < ss.length) → ss[i].size ≤ maxLen

/-- What is left. -/
def szL (left : Int) (ss : List ByteArray) : Int := if (ss.length : Int) + (sumS ss : Int) ≤ left then left - (ss.length : Int) - (sumS ss : Int) else -1
theorem szL_yes {left : Int} {ss : List ByteArray} (h : (ss.length : Int) + (sumS ss : Int) ≤ left) : szL left ss = left - (ss.length : Int) - (sumS ss : Int) := if_pos h
theorem szL_no {left : Int} {ss : List ByteArray} (h : left < (ss.length : Int) + (sumS ss : Int)) : szL left ss = -1 := if_neg (by omega)
set_option maxRecDepth 100000 in
theorem szStringS_row (g o c : Nat) (ss : List ByteArray) (left : Int) (w : World) (hE : StrsAt w g o ss) (hF : FitS ss) (h0 : 0 ≤ left) (h1 : left ≤ 1048576) (hn : ss.length ≤ maxLen) :
    Calls Tryz.prog 31 #[.slice (some ⟨g, o, none⟩) ss.length c, .int .i64 left] w fun e w' =>
      e = .returned (.int .i64 (szL left ss)) ∧ Below w.heap.size w w' := by
  unfold maxLen at hn
  by_cases hz : (ss.length : Int) ≤ left
  · have HE := hid hE
    clear hE
    go_enter Tryz.func31, Tryz.ntmps31
    go_wp2
    go_loopw [1, 5] (fun l i wr => ∃ k : Nat, k ≤ ss.length ∧ i = .int .i64 k ∧ l = .int .i64 (left - (ss.length : Int) - (sumS (ss.take k) : Int)) ∧ 0 ≤ left - (ss.length : Int) - (sumS (ss.take k) : Int) ∧ Below w.heap.size w wr) (fun _ i _ => ss.length - (intOf i).toNat)
    case atStart => exact ⟨0, Nat.zero_le _, rfl, by simp [sumS], by simp [sumS]; omega, Below.refl _ _⟩
    case round =>
      obtain ⟨k, hk, rfl, rfl, hl, hbel⟩ := hrel
      by_cases hlt : k < ss.length
      · have c0 := (HE.out.stay hbel (Nat.le_refl _)).2 k hlt
        have hst := hid (sumS_take hlt)
        have hf := hF k hlt
        unfold maxLen at hf
        generalize ss[k] = q0 at *
        generalize hL : left - (ss.length : Int) - (sumS (ss.take k) : Int) = L at *
        have HL := hid hL
        have hL9 : L ≤ 1048576 := by omega
        clear hL
        by_cases hzz : (q0.size : Int) ≤ L
        · have hL1 : left - (ss.length : Int) - (sumS (ss.take (k + 1)) : Int) = L - (q0.size : Int) := by have := hst.out; have := HL.out; omega
          have HL1 := hid hL1
          clear hL1
          go_wp2
          go_roundw
          case rel => exact ⟨k + 1, by omega, by go_num, by rw [HL1.out], by rw [HL1.out]; omega, hbel⟩
          case measure => simp [intOf]; omega
        · have hfin : szL left ss = -1 := szL_no (by have := hst.out; have := HL.out; have := sumS_le ss (k + 1); omega)
          have HF := hid hfin
          clear hfin
          go_wp2
          go_ret
          exact ⟨by rw [HF.out]; rfl, hbel⟩
      · have hk' : k = ss.length := by omega
        have hT : ss.take k = ss := List.take_of_length_le (by omega)
        rw [hT] at hl
        have HT := hid hT
        have hfin := szL_yes (left := left) (ss := ss) (by omega)
        have HF := hid hfin
        clear hk' hT hfin
        go_wp2
        go_ret
        exact ⟨ret_int (by rw [HF.out, HT.out]), hbel⟩
  · have hfin := szL_no (left := left) (ss := ss) (by omega)
    have HF := hid hfin
    clear hfin hE
    go_enter Tryz.func31, Tryz.ntmps31
    go_wp2
    go_ret
    exact ⟨by rw [HF.out]; rfl, Below.refl _ _⟩
theorem szStringS_none (a : Option Addr) (c : Nat) (left : Int) (w : World) (h0 : 0 ≤ left) (h1 : left ≤ 1048576) :
    Calls Tryz.prog 31 #[.slice a 0 c, .int .i64 left] w fun e w' => e = .returned (.int .i64 left) ∧ w' = w := by
  go_enter Tryz.func31, Tryz.ntmps31
  go_wp2
  go_loop [1, 5] (fun l i => l = .int .i64 left ∧ i = .int .i64 0) (fun _ _ => 0)
  case atStart => exact ⟨rfl, rfl⟩
  case round =>
    obtain ⟨rfl, rfl⟩ := hrel
    go_wp2
    go_ret
    exact ⟨rfl, rfl⟩
theorem szStringS_any (v : Value) (ss : List ByteArray) (left : Int) (w : World) (h : StrSl w v ss) (hF : FitS ss) (h0 : 0 ≤ left) (h1 : left ≤ 1048576) (hn : ss.length ≤ maxLen) :
    Calls Tryz.prog 31 #[v, .int .i64 left] w fun e w' => e = .returned (.int .i64 (szL left ss)) ∧ Below w.heap.size w w' := by
  rcases h with ⟨a, c, rfl, rfl⟩ | ⟨g, o, c, rfl, _, h⟩
  · refine (szStringS_none a c left w h0 h1).mono ?_
    rintro e w' ⟨rfl, rfl⟩
    exact ⟨ret_int (by rw [szL_yes (by simp [sumS]; omega)]; simp [sumS]), Below.refl _ _⟩
  · exact szStringS_row g o c ss left w h hF h0 h1 hn
end Go.Proofs.YthggcdadipjiiaaGreatDoor

/-
  How much pairs of texts take. Of no function.
-/
namespace Go.Proofs.YthggcdadipjiiaaGreatDoor
open Go.RowKit

def sumP : List Pr → Nat
  | [] => 0
  | e :: r => e.fst.size + e.snd.size + sumP r
theorem sumP_append (a b : List Pr) : sumP (a ++ b) = sumP a + sumP b := by
  induction a with
  | nil => simp [sumP]
  | cons e r ih => simp [sumP, ih]; omega
theorem sumP_take {es : List Pr} {k : Nat} (h : k < es.length) : sumP (es.take (k + 1)) = sumP (es.take k) + (es[k].fst.size + es[k].snd.size) := by
  rw [List.take_succ_eq_append_getElem h, sumP_append]; simp [sumP]
theorem sumP_le (es : List Pr) (k : Nat) : sumP (es.take k) ≤ sumP es := by
  have := sumP_append (es.take k) (es.drop k)
  rw [List.take_append_drop] at this; omega
def FitP (es : List Pr) : Prop := ∀ i, (h : i < es.length) → es[i].fst.size ≤ maxLen ∧ es[i].snd.size ≤ maxLen
def szP (left : Int) (es : List Pr) : Int := if (es.length : Int) + (sumP es : Int) ≤ left then left - (es.length : Int) - (sumP es : Int) else -1
theorem szP_yes {left : Int} {es : List Pr} (h : (es.length : Int) + (sumP es : Int) ≤ left) : szP left es = left - (es.length : Int) - (sumP es : Int) := if_pos h
theorem szP_no {left : Int} {es : List Pr} (h : left < (es.length : Int) + (sumP es : Int)) : szP left es = -1 := if_neg (by omega)
theorem pflat_take {es : List Pr} {k : Nat} (h : k < es.length) : (es.take (k + 1)).flatMap Pr.cells = (es.take k).flatMap Pr.cells ++ es[k].cells := by
  rw [List.take_succ_eq_append_getElem h, List.flatMap_append]; simp
theorem own_row2 {w : World} {base g n : Nat} {e : TypeId} {xs : List Value} (h : w.ownsRow base e 2 (.slice (some ⟨g, 0, none⟩) n n) n xs) : ∃ L : List Value, L.length = n * 2 ∧ w.heap[g]? = some (.cells L.toArray e (0, 0)) := by
  rcases h.2 with ⟨h1, _⟩ | ⟨g', cap, cur, h1, _, hh, _, _, hc, _⟩
  · cases h1
  · injection h1 with h1 _ h3
    injection h1 with h1
    injection h1 with h1 _ _
    subst h1; subst h3
    exact ⟨cur.toList, by simpa using hc, by simpa using hh⟩
theorem own_row1 {w : World} {base g n : Nat} {e : TypeId} {xs : List Value} (h : w.ownsRow base e 1 (.slice (some ⟨g, 0, none⟩) n n) n xs) : ∃ L : List Value, L.length = n ∧ w.heap[g]? = some (.cells L.toArray e (0, 0)) := by
  rcases h.2 with ⟨h1, _⟩ | ⟨g', cap, cur, h1, _, hh, _, _, hc, _⟩
  · cases h1
  · injection h1 with h1 _ h3
    injection h1 with h1
    injection h1 with h1 _ _
    subst h1; subst h3
    exact ⟨cur.toList, by simpa using hc, by simpa using hh⟩
theorem cell_is {w : World} {g j : Nat} {L : List Value} {t : TypeId} (h : w.heap[g]? = some (.cells L.toArray t (0, 0))) (hj : j < L.length) : ∃ u, w.cell? ⟨g, j, none⟩ = some u := by
  refine ⟨L[j], ?_⟩
  rw [Lib.cell_of_heap h]
  simp [hj]
theorem set2_take {L : List Value} {i : Nat} {a b : Value} (h : i + 2 ≤ L.length) : ((L.set i a).set (i + 1) b).take (i + 2) = L.take i ++ [a, b] := by
  apply List.ext_getElem?
  intro j
  by_cases h0 : j < i
  · rw [List.getElem?_append_left (by simp; omega)]
    simp [show ¬ i = j by omega, show ¬ i + 1 = j by omega, h0, show j < i + 2 by omega]
  · obtain ⟨m, rfl⟩ : ∃ m, j = i + m := ⟨j - i, by omega⟩
    rw [List.getElem?_append_right (by simp; omega), show i + m - (L.take i).length = m by simp; omega]
    match m with
    | 0 => simp [List.getElem?_set]; omega
    | 1 => simp [List.getElem?_set]; omega
    | n + 2 => simp [List.getElem?_take]; omega
theorem set1_take {L : List Value} {i : Nat} {a : Value} (h : i + 1 ≤ L.length) : (L.set i a).take (i + 1) = L.take i ++ [a] := by
  apply List.ext_getElem?
  intro j
  by_cases h0 : j < i
  · rw [List.getElem?_append_left (by simp; omega)]
    simp [show ¬ i = j by omega, h0, show j < i + 1 by omega]
  · obtain ⟨m, rfl⟩ : ∃ m, j = i + m := ⟨j - i, by omega⟩
    rw [List.getElem?_append_right (by simp; omega), show i + m - (L.take i).length = m by simp; omega]
    match m with
    | 0 => simp [List.getElem?_set]; omega
    | n + 1 => simp [List.getElem?_take]
end Go.Proofs.YthggcdadipjiiaaGreatDoor

/-
  Rows of texts and of pairs of texts, Defs and States that came in as data: what they hold. Of no function: small laws of reading.
-/
namespace Go.Proofs.YthggcdadipjiiaaGreatDoor
open Go.ChangeShapes Go.WideShapes Go.RowKit Go.Deep Go.WideElems

theorem list2 {α : Type} {l : List α} (h : l.length = 2) : ∃ a b, l = [a, b] := by
  match l, h with
  | [a, b], _ => exact ⟨a, b, rfl⟩
section
variable {H : Type} {enc : TypeId × Value → H} {P : Program} {w : World}

/-- A slice of strings, read. -/
theorem strs_cells {t e : TypeId} {fuel : Nat} {cs : List Value} {x : DataW H × List MemPlace} (hsl : P.underlying t = some (.slice e)) (he : P.underlying e = some .string) (hC : P.cellsOf e = 1)
    (h : DataW.trod enc P w 0 (fun _ => true) true fuel t cs = some x) : ∃ (a : Option Addr) (c : Nat) (ss : List ByteArray), cs = [.slice a ss.length c] ∧ StrSl w (.slice a ss.length c) ss ∧ FitS ss ∧ ss.length ≤ maxLen := by
  rcases open_slice hsl h with ⟨hcs, _⟩ | ⟨a, len, cap, m, n, D', Pl, hcs, _, hl, hm, hmm, _, hel⟩
  · exact ⟨none, 0, [], hcs, .inl ⟨none, 0, rfl, rfl⟩, fun i hi => absurd hi (by simp), Nat.zero_le _⟩
  · simp only [if_true] at hmm
    subst hmm
    have hex : ∀ i, i < len → ∃ s : ByteArray, w.cells? 0 (a.add i) 1 = some [.string s] ∧ s.size ≤ maxLen := by
      intro i hi
      obtain ⟨cs', h1, h2⟩ := hel i (by omega)
      rw [hC, Nat.mul_one] at h1
      obtain ⟨q, e', _, hq⟩ := DataW.trod_string he h2
      exact ⟨q, by rw [h1, e'], hq⟩
    obtain ⟨f, hfx⟩ : ∃ f : Nat → ByteArray, ∀ i, i < len → w.cells? 0 (a.add i) 1 = some [.string (f i)] ∧ (f i).size ≤ maxLen := by
      refine ⟨fun i => if hi : i < len then Classical.choose (hex i hi) else ByteArray.empty, fun i hi => ?_⟩
      simp only [dif_pos hi]
      exact Classical.choose_spec (hex i hi)
    refine ⟨some a, m, (List.range len).map f, by simpa using hcs, ?_, ?_, by simp; omega⟩
    · by_cases h0 : len = 0
      · subst h0
        exact .inl ⟨some a, m, by simp, rfl⟩
      · have hc0 := (hfx 0 (by omega)).1
        have hspot : a.spot = none := by
          obtain ⟨_, _, hc⟩ := World.cells?_some hc0
          have := World.cell?_spot (hc 0 (by decide))
          simpa [Addr.add] using this
        have hblk : a.block < w.heap.size := by
          have := World.cells?_block hc0 (by decide)
          simpa [Addr.add] using this
        obtain ⟨b, o, s⟩ := a
        simp at hspot hblk
        subst hspot
        refine .inr ⟨b, o, m, rfl, by simp; omega, hblk, fun i hi => ?_⟩
        have hi' : i < len := by simpa using hi
        obtain ⟨_, _, hc⟩ := World.cells?_some (hfx i hi').1
        have := hc 0 (by decide)
        rw [Addr.add_lit, Addr.add_lit] at this
        simpa using this
    · intro i hi
      have hi' : i < len := by simpa using hi
      simpa using (hfx i hi').2
/-- A struct of two strings, read. -/
theorem pr_cells {t : TypeId} {f0 f1 : Field} {fuel : Nat} {cs : List Value} {x : DataW H × List MemPlace} (ht : P.underlying t = some (.struct #[f0, f1])) (hone : oneCellFields P #[f0, f1] = true) (hC : P.cellsOf t = 2)
    (u0 : P.underlying f0.type = some .string) (u1 : P.underlying f1.type = some .string)
    (h : DataW.trod enc P w 0 (fun _ => true) true fuel t cs = some x) : ∃ p : Pr, cs = p.cells ∧ p.fst.size ≤ maxLen ∧ p.snd.size ≤ maxLen := by
  obtain ⟨xs, n, _, _, hl, hlen, hf⟩ := DataW.trod_struct ht h
  obtain ⟨c0, c1, rfl⟩ := list2 (hl.trans hC)
  obtain ⟨x0, x1, rfl⟩ := list2 (show xs.length = 2 from hlen)
  obtain ⟨s, rfl, hs⟩ := field_str (hone_of hone 0 f0 rfl) rfl u0 (hf 0 f0 rfl) rfl
  obtain ⟨v, rfl, hv⟩ := field_str (hone_of hone 1 f1 rfl) rfl u1 (hf 1 f1 rfl) rfl
  exact ⟨⟨s, v⟩, rfl, hs, hv⟩
theorem prat_of_cells {a : Addr} {i : Nat} {p : Pr} (h : w.cells? 0 (a.add (i * 2)) 2 = some p.cells) (hs : a.spot = none) : PrAt w a.block (a.off + i * 2) p := by
  obtain ⟨b, o, s⟩ := a
  simp at hs
  subst hs
  obtain ⟨_, _, hc⟩ := World.cells?_some h
  rw [Addr.add_lit] at hc
  have key : ∀ j, j < 2 → w.cell? ⟨b, o + i * 2 + j, none⟩ = p.cells[j]? := fun j hj => by
    have := hc j hj
    rwa [Addr.add_lit] at this
  exact ⟨key 0 (by decide), key 1 (by decide)⟩
/-- A slice of structs of two strings, read. -/
theorem prs_cells {t e : TypeId} {f0 f1 : Field} {fuel : Nat} {cs : List Value} {x : DataW H × List MemPlace} (hsl : P.underlying t = some (.slice e)) (ht : P.underlying e = some (.struct #[f0, f1])) (hone : oneCellFields P #[f0, f1] = true) (hC : P.cellsOf e = 2)
    (u0 : P.underlying f0.type = some .string) (u1 : P.underlying f1.type = some .string)
    (h : DataW.trod enc P w 0 (fun _ => true) true fuel t cs = some x) : ∃ (a : Option Addr) (c : Nat) (ps : List Pr), cs = [.slice a ps.length c] ∧ PrSl w (.slice a ps.length c) ps ∧ FitP ps ∧ ps.length ≤ maxLen := by
  rcases open_slice hsl h with ⟨hcs, _⟩ | ⟨a, len, cap, m, n, D', Pl, hcs, _, hl, hm, hmm, _, hel⟩
  · exact ⟨none, 0, [], hcs, .inl ⟨none, 0, rfl, rfl⟩, fun i hi => absurd hi (by simp), Nat.zero_le _⟩
  · simp only [if_true] at hmm
    subst hmm
    have hex : ∀ i, i < len → ∃ p : Pr, w.cells? 0 (a.add (i * 2)) 2 = some p.cells ∧ p.fst.size ≤ maxLen ∧ p.snd.size ≤ maxLen := by
      intro i hi
      obtain ⟨cs', h1, h2⟩ := hel i (by omega)
      rw [hC] at h1
      obtain ⟨p, rfl, hs, hv⟩ := pr_cells ht hone hC u0 u1 h2
      exact ⟨p, h1, hs, hv⟩
    obtain ⟨f, hfx⟩ : ∃ f : Nat → Pr, ∀ i, i < len → w.cells? 0 (a.add (i * 2)) 2 = some (f i).cells ∧ (f i).fst.size ≤ maxLen ∧ (f i).snd.size ≤ maxLen := by
      refine ⟨fun i => if hi : i < len then Classical.choose (hex i hi) else ⟨ByteArray.empty, ByteArray.empty⟩, fun i hi => ?_⟩
      simp only [dif_pos hi]
      exact Classical.choose_spec (hex i hi)
    refine ⟨some a, m, (List.range len).map f, by simpa using hcs, ?_, ?_, by simp; omega⟩
    · by_cases h0 : len = 0
      · subst h0
        exact .inl ⟨some a, m, by simp, rfl⟩
      · have hc0 := (hfx 0 (by omega)).1
        have hspot : a.spot = none := by
          obtain ⟨_, _, hc⟩ := World.cells?_some hc0
          have := World.cell?_spot (hc 0 (by decide))
          simpa [Addr.add] using this
        have hblk : a.block < w.heap.size := by
          have := World.cells?_block hc0 (by decide)
          simpa [Addr.add] using this
        refine .inr ⟨a.block, a.off, m, ?_, by simp; omega, hblk, fun i hi => ?_⟩
        · obtain ⟨b, o, s⟩ := a
          simp at hspot
          subst hspot
          simp
        · have hi' : i < len := by simpa using hi
          simpa using prat_of_cells (hfx i hi').1 hspot
    · intro i hi
      have hi' : i < len := by simpa using hi
      simpa using (hfx i hi').2
theorem field_one {f : Field} {n i : Nat} {cs : List Value} {c : Value} {y : Option (DataW H × List MemPlace)} {z : DataW H × List MemPlace} (ho : f.offset = i ∧ P.cellsOf f.type = 1) (hc : (cs.drop i).take 1 = [c])
    (h : DataW.trod enc P w 0 (fun _ => true) true n f.type ((cs.drop f.offset).take (P.cellsOf f.type)) = y) (hy : y = some z) : DataW.trod enc P w 0 (fun _ => true) true n f.type [c] = some z := by
  rw [ho.1, ho.2, hc, hy] at h; exact h
/-- A Def, handed in by value. -/
theorem def_value {r : Reach} {b0 : Nat} {t e e2 : TypeId} {f0 f1 q0 q1 : Field} {V : Value} {D : DataW H} {p : List MemPlace} (ht : P.underlying t = some (.struct #[f0, f1])) (hone : oneCellFields P #[f0, f1] = true) (hC : P.cellsOf t = 2)
    (s0 : P.underlying f0.type = some (.slice e)) (s0e : P.underlying e = some .string) (s0c : P.cellsOf e = 1)
    (s1 : P.underlying f1.type = some (.slice e2)) (s1e : P.underlying e2 = some (.struct #[q0, q1])) (s1o : oneCellFields P #[q0, q1] = true) (s1c : P.cellsOf e2 = 2) (u0 : P.underlying q0.type = some .string) (u1 : P.underlying q1.type = some .string)
    (hv : Value.okWide P w r b0 t V) (h : DataW.Trod enc P w 0 (fun _ => true) true t V D p) :
    ∃ (a1 a2 : Option Addr) (k1 k2 : Nat) (ss : List ByteArray) (fs : List Pr), V = .agg #[.slice a1 ss.length k1, .slice a2 fs.length k2] ∧ (StrSl w (.slice a1 ss.length k1) ss ∧ FitS ss ∧ ss.length ≤ maxLen) ∧ (PrSl w (.slice a2 fs.length k2) fs ∧ FitP fs ∧ fs.length ≤ maxLen) := by
  obtain ⟨cs, rfl, _⟩ := okWide_struct ht hv
  obtain ⟨fuel, hf'⟩ := h
  obtain ⟨xs, n, _, _, hl, hlen, hf⟩ := DataW.trod_struct ht hf'
  obtain ⟨c0, c1, e⟩ := list2 (hl.trans hC)
  rw [e] at hf
  obtain ⟨x0, x1, rfl⟩ := list2 (show xs.length = 2 from hlen)
  obtain ⟨a1, k1, ss, e1, h1⟩ := strs_cells s0 s0e s0c (field_one (hone_of hone 0 f0 rfl) rfl (hf 0 f0 rfl) rfl)
  obtain ⟨a2, k2, fs, e2, h2⟩ := prs_cells s1 s1e s1o s1c u0 u1 (field_one (hone_of hone 1 f1 rfl) rfl (hf 1 f1 rfl) rfl)
  refine ⟨a1, a2, k1, k2, ss, fs, ?_, h1, h2⟩
  congr 1
  apply Array.toList_inj.1
  simp at e1 e2
  rw [e1, e2] at e
  simpa [Value.cells] using e
end
end Go.Proofs.YthggcdadipjiiaaGreatDoor
