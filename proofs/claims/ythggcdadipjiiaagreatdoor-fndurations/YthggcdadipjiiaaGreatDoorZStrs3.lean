/-
  Texts put together: Strs, PrSum, DfMath.
-/
import Derived.Test.YthggcdadipjiiaaGreatDoorZGen4
import Derived.OwnWalk
import Derived.Test.YthggcdadipjiiaaGreatDoorZNm4
/-
  Rows of texts, and of pairs of texts, in memory: what it is that a slice holds them, and that it stays so. Of no function.
-/
namespace Go.Proofs.YthggcdadipjiiaaGreatDoor
open Go.RowKit

/-- A row of texts, from a place on. -/
def StrsAt (w : World) (g o : Nat) (ss : List ByteArray) : Prop := g < w.heap.size ∧ ∀ i, (h : i < ss.length) → w.cell? ⟨g, o + i, none⟩ = some (.string ss[i])
/-- What a slice of texts is: empty, or a row somewhere. -/
def StrSl (w : World) (v : Value) (ss : List ByteArray) : Prop :=
  (∃ a c, v = .slice a 0 c ∧ ss = []) ∨ ∃ g o c, v = .slice (some ⟨g, o, none⟩) ss.length c ∧ (0 < ss.length ∧ ss.length ≤ c) ∧ StrsAt w g o ss
theorem StrsAt.below {w w' : World} {B g o : Nat} {ss : List ByteArray} (h : StrsAt w g o ss) (hb : Below B w w') (hg : g < B) : StrsAt w' g o ss :=
  ⟨Nat.lt_of_lt_of_le h.1 hb.size, fun i hi => by rw [hb.cell (p := ⟨g, o + i, none⟩) hg]; exact h.2 i hi⟩
theorem StrsAt.stay {w w' : World} {B g o : Nat} {ss : List ByteArray} (h : StrsAt w g o ss) (hb : Below B w w') (hB : w.heap.size ≤ B) : StrsAt w' g o ss := h.below hb (Nat.lt_of_lt_of_le h.1 hB)
theorem StrSl.stay {w w' : World} {B : Nat} {v : Value} {ss : List ByteArray} (h : StrSl w v ss) (hb : Below B w w') (hB : w.heap.size ≤ B) : StrSl w' v ss := by
  rcases h with h | ⟨g, o, c, hv, hn, h⟩
  · exact .inl h
  · exact .inr ⟨g, o, c, hv, hn, h.stay hb hB⟩
theorem StrSl.form {w : World} {v : Value} {ss : List ByteArray} (h : StrSl w v ss) : ∃ a c, v = .slice a ss.length c := by
  rcases h with ⟨a, c, rfl, rfl⟩ | ⟨g, o, c, rfl, _, _⟩
  · exact ⟨a, c, rfl⟩
  · exact ⟨_, c, rfl⟩
/-- Its first k. -/
theorem StrSl.part {w : World} {a : Option Addr} {n c k : Nat} {ss : List ByteArray} (h : StrSl w (.slice a n c) ss) (hk : k ≤ ss.length) : StrSl w (.slice a k c) (ss.take k) := by
  by_cases h0 : k = 0
  · subst h0; exact .inl ⟨a, c, rfl, by simp⟩
  · rcases h with ⟨a', c', hv, rfl⟩ | ⟨g, o, c', hv, hn, hlt, h⟩
    · simp at hk; exact absurd hk h0
    · injection hv with h1 h2 h3
      subst h1; subst h3
      refine .inr ⟨g, o, c, by rw [List.length_take, Nat.min_eq_left hk], by rw [List.length_take]; omega, hlt, fun i hi => ?_⟩
      rw [List.getElem_take]
      exact h i (by rw [List.length_take] at hi; omega)
theorem str_of_own {w : World} {base n : Nat} {e : TypeId} {v : Value} {ss : List ByteArray} (h : w.ownsRow base e 1 v n (ss.map Value.string)) : StrSl w v ss := by
  have hn : n = ss.length := by have := h.1; rw [List.length_map] at this; omega
  subst hn
  rcases h.2 with ⟨hv, h0⟩ | ⟨g, cap, cur, hv, _, _, hle, _⟩
  · exact .inl ⟨none, 0, hv, List.eq_nil_of_length_eq_zero h0⟩
  · by_cases h0 : ss.length = 0
    · exact .inl ⟨some ⟨g, 0, none⟩, cap, by rw [hv, h0], List.eq_nil_of_length_eq_zero h0⟩
    · have hlt := (h.lt g (by rw [hv]; rfl)).2
      refine .inr ⟨g, 0, cap, hv, ⟨by omega, hle⟩, hlt, fun i hi => ?_⟩
      have := h.cells (g := g) (by rw [hv]; rfl) i (.string ss[i]) (by simp [hi])
      rw [Addr.add_lit] at this
      exact this

/-- A pair of texts: a flow, a var. -/
structure Pr where
  fst : ByteArray
  snd : ByteArray
def Pr.cells (p : Pr) : List Value := [.string p.fst, .string p.snd]
structure PrAt (w : World) (g o : Nat) (p : Pr) : Prop where
  c0 : w.cell? ⟨g, o, none⟩ = some (.string p.fst)
  c1 : w.cell? ⟨g, o + 1, none⟩ = some (.string p.snd)
def PrsAt (w : World) (g o : Nat) (ps : List Pr) : Prop := g < w.heap.size ∧ ∀ i, (h : i < ps.length) → PrAt w g (o + i * 2) ps[i]
def PrSl (w : World) (v : Value) (ps : List Pr) : Prop :=
  (∃ a c, v = .slice a 0 c ∧ ps = []) ∨ ∃ g o c, v = .slice (some ⟨g, o, none⟩) ps.length c ∧ (0 < ps.length ∧ ps.length ≤ c) ∧ PrsAt w g o ps
theorem PrAt.below {w w' : World} {B g o : Nat} {p : Pr} (h : PrAt w g o p) (hb : Below B w w') (hg : g < B) : PrAt w' g o p :=
  ⟨by rw [hb.cell (p := ⟨g, o, none⟩) hg]; exact h.c0, by rw [hb.cell (p := ⟨g, o + 1, none⟩) hg]; exact h.c1⟩
theorem PrsAt.stay {w w' : World} {B g o : Nat} {ps : List Pr} (h : PrsAt w g o ps) (hb : Below B w w') (hB : w.heap.size ≤ B) : PrsAt w' g o ps :=
  ⟨Nat.lt_of_lt_of_le h.1 hb.size, fun i hi => (h.2 i hi).below hb (Nat.lt_of_lt_of_le h.1 hB)⟩
theorem PrSl.stay {w w' : World} {B : Nat} {v : Value} {ps : List Pr} (h : PrSl w v ps) (hb : Below B w w') (hB : w.heap.size ≤ B) : PrSl w' v ps := by
  rcases h with h | ⟨g, o, c, hv, hn, h⟩
  · exact .inl h
  · exact .inr ⟨g, o, c, hv, hn, h.stay hb hB⟩
theorem PrSl.form {w : World} {v : Value} {ps : List Pr} (h : PrSl w v ps) : ∃ a c, v = .slice a ps.length c := by
  rcases h with ⟨a, c, rfl, rfl⟩ | ⟨g, o, c, rfl, _, _⟩
  · exact ⟨a, c, rfl⟩
  · exact ⟨_, c, rfl⟩
theorem PrSl.part {w : World} {a : Option Addr} {n c k : Nat} {ps : List Pr} (h : PrSl w (.slice a n c) ps) (hk : k ≤ ps.length) : PrSl w (.slice a k c) (ps.take k) := by
  by_cases h0 : k = 0
  · subst h0; exact .inl ⟨a, c, rfl, by simp⟩
  · rcases h with ⟨a', c', hv, rfl⟩ | ⟨g, o, c', hv, hn, hlt, h⟩
    · simp at hk; exact absurd hk h0
    · injection hv with h1 h2 h3
      subst h1; subst h3
      refine .inr ⟨g, o, c, by rw [List.length_take, Nat.min_eq_left hk], by rw [List.length_take]; omega, hlt, fun i hi => ?_⟩
      rw [List.getElem_take]
      exact h i (by rw [List.length_take] at hi; omega)
theorem StrSl.cap {w : World} {a : Option Addr} {n c : Nat} {ss : List ByteArray} (h : StrSl w (.slice a n c) ss) : ss.length ≤ c := by
  rcases h with ⟨_, _, _, rfl⟩ | ⟨_, _, _, hv, hn, _⟩
  · exact Nat.zero_le _
  · injection hv with _ _ h3; rw [h3]; exact hn.2
theorem PrSl.cap {w : World} {a : Option Addr} {n c : Nat} {ps : List Pr} (h : PrSl w (.slice a n c) ps) : ps.length ≤ c := by
  rcases h with ⟨_, _, _, rfl⟩ | ⟨_, _, _, hv, hn, _⟩
  · exact Nat.zero_le _
  · injection hv with _ _ h3; rw [h3]; exact hn.2
theorem StrSl.row {w : World} {a : Option Addr} {n c : Nat} {ss : List ByteArray} (h : StrSl w (.slice a n c) ss) (h0 : 0 < ss.length) : ∃ g o, a = some ⟨g, o, none⟩ ∧ StrsAt w g o ss := by
  rcases h with ⟨_, _, _, rfl⟩ | ⟨g, o, _, hv, _, h⟩
  · simp at h0
  · injection hv with h1 _ _; exact ⟨g, o, h1, h⟩
theorem PrSl.row {w : World} {a : Option Addr} {n c : Nat} {ps : List Pr} (h : PrSl w (.slice a n c) ps) (h0 : 0 < ps.length) : ∃ g o, a = some ⟨g, o, none⟩ ∧ PrsAt w g o ps := by
  rcases h with ⟨_, _, _, rfl⟩ | ⟨g, o, _, hv, _, h⟩
  · simp at h0
  · injection hv with h1 _ _; exact ⟨g, o, h1, h⟩
theorem pflat_at : ∀ (ps : List Pr) (i j : Nat), (h : i < ps.length) → j < 2 → (ps.flatMap Pr.cells)[i * 2 + j]? = ps[i].cells[j]?
  | [], i, _, h, _ => absurd h (by simp)
  | p :: r, 0, j, _, hj => by
    rw [List.flatMap_cons, List.getElem?_append_left (by simp [Pr.cells]; omega)]; simp
  | p :: r, i + 1, j, h, hj => by
    rw [List.flatMap_cons, List.getElem?_append_right (by simp [Pr.cells]; omega), show (i + 1) * 2 + j - p.cells.length = i * 2 + j by simp [Pr.cells]; omega]
    rw [pflat_at r i j (by simpa using h) hj]; simp
theorem pflat_len (ps : List Pr) : (ps.flatMap Pr.cells).length = ps.length * 2 := by
  induction ps with
  | nil => rfl
  | cons p r ih => rw [List.flatMap_cons, List.length_append, ih]; simp [Pr.cells]; omega
theorem pr_of_own {w : World} {base n : Nat} {e : TypeId} {v : Value} {ps : List Pr} (h : w.ownsRow base e 2 v n (ps.flatMap Pr.cells)) : PrSl w v ps := by
  have hn : n = ps.length := by have := h.1; rw [pflat_len] at this; omega
  subst hn
  rcases h.2 with ⟨hv, h0⟩ | ⟨g, cap, cur, hv, _, _, hle, _⟩
  · exact .inl ⟨none, 0, hv, List.eq_nil_of_length_eq_zero h0⟩
  · by_cases h0 : ps.length = 0
    · exact .inl ⟨some ⟨g, 0, none⟩, cap, by rw [hv, h0], List.eq_nil_of_length_eq_zero h0⟩
    · have hlt := (h.lt g (by rw [hv]; rfl)).2
      refine .inr ⟨g, 0, cap, hv, ⟨by omega, hle⟩, hlt, fun i hi => ?_⟩
      have key : ∀ j, j < 2 → ∀ u, ps[i].cells[j]? = some u → w.cell? ⟨g, 0 + i * 2 + j, none⟩ = some u := fun j hj u hu => by
        have := h.cells (g := g) (by rw [hv]; rfl) (i * 2 + j) u (by rw [pflat_at ps i j hi hj]; exact hu)
        rw [Addr.add_lit] at this
        simpa [Nat.add_assoc] using this
      exact ⟨key 0 (by decide) _ rfl, key 1 (by decide) _ rfl⟩
end Go.Proofs.YthggcdadipjiiaaGreatDoor

/-
  How much pairs of texts take. Of no function.
-/
namespace Go.Proofs.YthggcdadipjiiaaGreatDoor
open Go.RowKit

def sumP : List Pr → Nat
  | [] => 0
  | e :: r => e.fst.size + e.snd.size + sumP r
def FitP (es : List Pr) : Prop := ∀ i, (h : i < es.length) → es[i].fst.size ≤ maxLen ∧ es[i].snd.size ≤ maxLen
def szP (left : Int) (es : List Pr) : Int := if (es.length : Int) + (sumP es : Int) ≤ left then left - (es.length : Int) - (sumP es : Int) else -1
end Go.Proofs.YthggcdadipjiiaaGreatDoor

/-
  What it is for a Def to be right: plain mathematics of lists. Of no function.
-/
namespace Go.Proofs.YthggcdadipjiiaaGreatDoor
open Go.RowKit

theorem nodup_of_take {α : Type} {l : List α} (h : ∀ i, (hi : i < l.length) → l[i] ∉ l.take i) : l.Nodup := by
  rw [List.Nodup, List.pairwise_iff_getElem]
  intro i j hi hj hij e
  exact h j hj (by rw [← e]; exact List.mem_take_iff_getElem.2 ⟨i, by omega, rfl⟩)
theorem twice_of_take {α : Type} {l : List α} {i : Nat} (hi : i < l.length) (h : l[i] ∈ l.take i) : ¬ l.Nodup := by
  intro hn
  rw [List.Nodup, List.pairwise_iff_getElem] at hn
  obtain ⟨j, hj, e⟩ := List.mem_take_iff_getElem.1 h
  exact hn j i (by omega) hi (by omega) e
theorem nodup_take {α : Type} {l : List α} (h : l.Nodup) {i : Nat} (hi : i < l.length) : l[i] ∉ l.take i := fun h' => twice_of_take hi h' h

/-- These steps, these flows: a right Def. -/
structure StepsP (ss : List ByteArray) : Prop where
  n1 : 1 ≤ ss.length
  n2 : ss.length ≤ 12
  nm : ∀ i, (h : i < ss.length) → nrB ss[i] = true
  nd : ss.Nodup
structure FlowsP (ss : List ByteArray) (fs : List Pr) : Prop where
  m : fs.length ≤ 40
  fl : ∀ i, (h : i < fs.length) → fs[i].fst ∈ ss ∧ fs[i].snd ∈ ss
  fd : fs.Nodup
def DefP (ss : List ByteArray) (fs : List Pr) : Prop := StepsP ss ∧ FlowsP ss fs
/-- A Bool that says so. -/
def Tells (b : Bool) (p : Prop) : Prop := b = true ↔ p
theorem Tells.yes {b : Bool} {p : Prop} (h : Tells b p) (hp : p) : b = true := h.2 hp
theorem Tells.no {b : Bool} {p : Prop} (h : Tells b p) (hp : ¬ p) : b = false := by
  cases b with
  | false => rfl
  | true => exact absurd (h.1 rfl) hp
theorem Tells.same {a b : Bool} {p : Prop} (h : Tells a p) (k : Tells b p) : a = b := by
  cases a with
  | true => exact (k.yes (h.1 rfl)).symm
  | false =>
    cases b with
    | false => rfl
    | true => exact h.2 (k.1 rfl)
theorem tells_t {p : Prop} (h : p) : Tells true p := ⟨fun _ => h, fun _ => rfl⟩
theorem tells_f {p : Prop} (h : ¬ p) : Tells false p := ⟨fun e => absurd e (by decide), fun k => absurd k h⟩
/-- A call that ends so tells whether p. -/
def RetB (e : Ending) (p : Prop) : Prop := ∃ B : Bool, e = .returned (.bool B) ∧ Tells B p
theorem retB_t {p : Prop} (h : p) : RetB (.returned (.bool true)) p := ⟨true, rfl, tells_t h⟩
theorem retB_f {p : Prop} (h : ¬ p) : RetB (.returned (.bool false)) p := ⟨false, rfl, tells_f h⟩
theorem RetB.yes {e : Ending} {p : Prop} (h : RetB e p) (hp : p) : e = .returned (.bool true) := by
  obtain ⟨B, rfl, hB⟩ := h; rw [hB.yes hp]
theorem RetB.no {e : Ending} {p : Prop} (h : RetB e p) (hp : ¬ p) : e = .returned (.bool false) := by
  obtain ⟨B, rfl, hB⟩ := h; rw [hB.no hp]
theorem calls_yes {P : Program} {f : FuncId} {args : Array Value} {w : World} {p : Prop} {R : World → Prop} (h : Calls P f args w fun e w' => RetB e p ∧ R w') (hp : p) : Calls P f args w fun e w' => e = .returned (.bool true) ∧ R w' :=
  h.mono fun _ _ ⟨h1, h2⟩ => ⟨h1.yes hp, h2⟩
theorem calls_no {P : Program} {f : FuncId} {args : Array Value} {w : World} {p : Prop} {R : World → Prop} (h : Calls P f args w fun e w' => RetB e p ∧ R w') (hp : ¬ p) : Calls P f args w fun e w' => e = .returned (.bool false) ∧ R w' :=
  h.mono fun _ _ ⟨h1, h2⟩ => ⟨h1.no hp, h2⟩
theorem pr_ext {a b : Pr} (h1 : a.fst = b.fst) (h2 : a.snd = b.snd) : a = b := by
  cases a; cases b; cases h1; cases h2; rfl
/-- The place of a text among others, or -1. -/
def atI (ss : List ByteArray) (t : ByteArray) : Int := match ss.findIdx? (fun x => decide (x = t)) with
  | some k => (k : Int)
  | none => -1
theorem atI_first {ss : List ByteArray} {t : ByteArray} {k : Nat} (hk : k < ss.length) (hn : ∀ j, j < k → (h : j < ss.length) → ss[j] ≠ t) (he : ss[k] = t) : atI ss t = k := by
  unfold atI
  rw [List.findIdx?_eq_some_iff_getElem.2 ⟨hk, by simpa using he, fun j hj => by simpa using hn j hj (by omega)⟩]
theorem atI_out {ss : List ByteArray} {t : ByteArray} (h : t ∉ ss) : atI ss t = -1 := by
  unfold atI
  rw [List.findIdx?_eq_none_iff.2 (fun x hx => by simp; exact fun e => h (e ▸ hx))]
theorem atI_in {ss : List ByteArray} {t : ByteArray} (h : t ∈ ss) : ∃ k : Nat, ∃ hk : k < ss.length, atI ss t = k ∧ ss[k] = t ∧ ∀ j, j < k → (h : j < ss.length) → ss[j] ≠ t := by
  unfold atI
  cases hf : ss.findIdx? (fun x => decide (x = t)) with
  | none => exact absurd (List.findIdx?_eq_none_iff.1 hf t h) (by simp)
  | some k =>
    obtain ⟨hk, h1, h2⟩ := List.findIdx?_eq_some_iff_getElem.1 hf
    exact ⟨k, hk, rfl, by simpa using h1, fun j hj _ => by simpa using h2 j hj⟩
theorem atI_ge {ss : List ByteArray} {t : ByteArray} : 0 ≤ atI ss t ↔ t ∈ ss := by
  by_cases h : t ∈ ss
  · obtain ⟨k, _, e, _⟩ := atI_in h
    rw [e]; exact ⟨fun _ => h, fun _ => by omega⟩
  · rw [atI_out h]; exact ⟨fun e => absurd e (by decide), fun e => absurd e h⟩
/-- Is a text among others? -/
def inB (ss : List ByteArray) (t : ByteArray) : Bool := decide (0 ≤ atI ss t)
theorem inB_yes {ss : List ByteArray} {t : ByteArray} (h : t ∈ ss) : inB ss t = true := decide_eq_true (atI_ge.2 h)
theorem inB_no {ss : List ByteArray} {t : ByteArray} (h : t ∉ ss) : inB ss t = false := decide_eq_false (fun e => h (atI_ge.1 e))
theorem ne_step {α : Type} {l : List α} {t : α} {k : Nat} {hk : k < l.length} (ha : ∀ j, j < k → (h : j < l.length) → l[j] ≠ t) (ho : l[k] ≠ t) : ∀ j, j < k + 1 → (h : j < l.length) → l[j] ≠ t := by
  intro j hj h
  by_cases e : j = k
  · subst e; exact ho
  · exact ha j (by omega) h
theorem ne_all {α : Type} {l : List α} {t : α} {k : Nat} (ha : ∀ j, j < k → (h : j < l.length) → l[j] ≠ t) (hk : l.length ≤ k) : t ∉ l := by
  intro h
  obtain ⟨j, hj, e⟩ := List.mem_iff_getElem.1 h
  exact ha j (by omega) hj e
end Go.Proofs.YthggcdadipjiiaaGreatDoor
