/-
  Texts put together: DfMath, EvX, EvT, StMath, ApCe.
-/
import Derived.Test.YtdggmeblnbabbaaGreatDoorZOwnB7
import Derived.Test.YtdggmeblnbabbaaGreatDoorZBsIn6
import Derived.Laws.AppendOwnNone
/-
  What it is for a Def to be right: plain mathematics of lists. Of no function.
-/
namespace Go.Proofs.YtdggmeblnbabbaaGreatDoor
open Go.RowKit

theorem nodup_of_take {α : Type} {l : List α} (h : ∀ i, (hi : i < l.length) → l[i] ∉ l.take i) : l.Nodup := by
  rw [List.Nodup, List.pairwise_iff_getElem]
  intro i j hi hj hij e
  exact h j hj (by rw [← e]; exact List.mem_take_iff_getElem.2 ⟨i, by omega, rfl⟩)
theorem twice_of_take {α : Type} {l : List α} {i : Nat} (hi : i < l.length) (h : l[i] ∈ l.take i) : ¬ l.Nodup := by
  intro hn
  rw [List.Nodup, List.pairwise_iff_getElem] at hn
  obtain ⟨j, hj, e⟩ := List.mem_take_iff_getElem.1 h
  exact hn j i (by omega) hi (by omega) e
theorem nodup_take {α : Type} {l : List α} (h : l.Nodup) {i : Nat} (hi : i < l.length) : l[i] ∉ l.take i := fun h' => twice_of_take hi h' h

/-- These steps, these flows: a right Def. -/
structure StepsP (ss : List ByteArray) : Prop where
  n1 : 1 ≤ ss.length
  n2 : ss.length ≤ 12
  nm : ∀ i, (h : i < ss.length) → nrB ss[i] = true
  nd : ss.Nodup
structure FlowsP (ss : List ByteArray) (fs : List Pr) : Prop where
  m : fs.length ≤ 40
  fl : ∀ i, (h : i < fs.length) → fs[i].fst ∈ ss ∧ fs[i].snd ∈ ss
  fd : fs.Nodup
def DefP (ss : List ByteArray) (fs : List Pr) : Prop := StepsP ss ∧ FlowsP ss fs
/-- A Bool that says so. -/
def Tells (b : Bool) (p : Prop) : Prop := b = true ↔ p
theorem Tells.yes {b : Bool} {p : Prop} (h : Tells b p) (hp : p) : b = true := h.2 hp
theorem Tells.no {b : Bool} {p : Prop} (h : Tells b p) (hp : ¬ p) : b = false := by
  cases b with
  | false => rfl
  | true => exact absurd (h.1 rfl) hp
theorem Tells.same {a b : Bool} {p : Prop} (h : Tells a p) (k : Tells b p) : a = b := by
  cases a with
  | true => exact (k.yes (h.1 rfl)).symm
  | false =>
    cases b with
    | false => rfl
    | true => exact h.2 (k.1 rfl)
theorem tells_t {p : Prop} (h : p) : Tells true p := ⟨fun _ => h, fun _ => rfl⟩
theorem tells_f {p : Prop} (h : ¬ p) : Tells false p := ⟨fun e => absurd e (by decide), fun k => absurd k h⟩
/-- A call that ends so tells whether p. -/
def RetB (e : Ending) (p : Prop) : Prop := ∃ B : Bool, e = .returned (.bool B) ∧ Tells B p
theorem retB_t {p : Prop} (h : p) : RetB (.returned (.bool true)) p := ⟨true, rfl, tells_t h⟩
theorem retB_f {p : Prop} (h : ¬ p) : RetB (.returned (.bool false)) p := ⟨false, rfl, tells_f h⟩
theorem RetB.yes {e : Ending} {p : Prop} (h : RetB e p) (hp : p) : e = .returned (.bool true) := by
  obtain ⟨B, rfl, hB⟩ := h; rw [hB.yes hp]
theorem RetB.no {e : Ending} {p : Prop} (h : RetB e p) (hp : ¬ p) : e = .returned (.bool false) := by
  obtain ⟨B, rfl, hB⟩ := h; rw [hB.no hp]
theorem calls_yes {P : Program} {f : FuncId} {args : Array Value} {w : World} {p : Prop} {R : World → Prop} (h : Calls P f args w fun e w' => RetB e p ∧ R w') (hp : p) : Calls P f args w fun e w' => e = .returned (.bool true) ∧ R w' :=
  h.mono fun _ _ ⟨h1, h2⟩ => ⟨h1.yes hp, h2⟩
theorem calls_no {P : Program} {f : FuncId} {args : Array Value} {w : World} {p : Prop} {R : World → Prop} (h : Calls P f args w fun e w' => RetB e p ∧ R w') (hp : ¬ p) : Calls P f args w fun e w' => e = .returned (.bool false) ∧ R w' :=
  h.mono fun _ _ ⟨h1, h2⟩ => ⟨h1.no hp, h2⟩
theorem pr_ext {a b : Pr} (h1 : a.fst = b.fst) (h2 : a.snd = b.snd) : a = b := by
  cases a; cases b; cases h1; cases h2; rfl
/-- The place of a text among others, or -1. -/
def atI (ss : List ByteArray) (t : ByteArray) : Int := match ss.findIdx? (fun x => decide (x = t)) with
  | some k => (k : Int)
  | none => -1
theorem atI_first {ss : List ByteArray} {t : ByteArray} {k : Nat} (hk : k < ss.length) (hn : ∀ j, j < k → (h : j < ss.length) → ss[j] ≠ t) (he : ss[k] = t) : atI ss t = k := by
  unfold atI
  rw [List.findIdx?_eq_some_iff_getElem.2 ⟨hk, by simpa using he, fun j hj => by simpa using hn j hj (by omega)⟩]
theorem atI_out {ss : List ByteArray} {t : ByteArray} (h : t ∉ ss) : atI ss t = -1 := by
  unfold atI
  rw [List.findIdx?_eq_none_iff.2 (fun x hx => by simp; exact fun e => h (e ▸ hx))]
theorem atI_in {ss : List ByteArray} {t : ByteArray} (h : t ∈ ss) : ∃ k : Nat, ∃ hk : k < ss.length, atI ss t = k ∧ ss[k] = t ∧ ∀ j, j < k → (h : j < ss.length) → ss[j] ≠ t := by
  unfold atI
  cases hf : ss.findIdx? (fun x => decide (x = t)) with
  | none => exact absurd (List.findIdx?_eq_none_iff.1 hf t h) (by simp)
  | some k =>
    obtain ⟨hk, h1, h2⟩ := List.findIdx?_eq_some_iff_getElem.1 hf
    exact ⟨k, hk, rfl, by simpa using h1, fun j hj _ => by simpa using h2 j hj⟩
theorem atI_ge {ss : List ByteArray} {t : ByteArray} : 0 ≤ atI ss t ↔ t ∈ ss := by
  by_cases h : t ∈ ss
  · obtain ⟨k, _, e, _⟩ := atI_in h
    rw [e]; exact ⟨fun _ => h, fun _ => by omega⟩
  · rw [atI_out h]; exact ⟨fun e => absurd e (by decide), fun e => absurd e h⟩
/-- Is a text among others? -/
def inB (ss : List ByteArray) (t : ByteArray) : Bool := decide (0 ≤ atI ss t)
theorem inB_yes {ss : List ByteArray} {t : ByteArray} (h : t ∈ ss) : inB ss t = true := decide_eq_true (atI_ge.2 h)
theorem inB_no {ss : List ByteArray} {t : ByteArray} (h : t ∉ ss) : inB ss t = false := decide_eq_false (fun e => h (atI_ge.1 e))
theorem ne_step {α : Type} {l : List α} {t : α} {k : Nat} {hk : k < l.length} (ha : ∀ j, j < k → (h : j < l.length) → l[j] ≠ t) (ho : l[k] ≠ t) : ∀ j, j < k + 1 → (h : j < l.length) → l[j] ≠ t := by
  intro j hj h
  by_cases e : j = k
  · subst e; exact ho
  · exact ha j (by omega) h
theorem ne_all {α : Type} {l : List α} {t : α} {k : Nat} (ha : ∀ j, j < k → (h : j < l.length) → l[j] ≠ t) (hk : l.length ≤ k) : t ∉ l := by
  intro h
  obtain ⟨j, hj, e⟩ := List.mem_iff_getElem.1 h
  exact ha j (by omega) hj e
end Go.Proofs.YtdggmeblnbabbaaGreatDoor

/-
  An event, field by field, and what it is for one to be right. Of no function.
-/
namespace Go.Proofs.YtdggmeblnbabbaaGreatDoor
open Go.RowKit

def numB (n : Int) : Bool := decide (1 ≤ n) && decide (n ≤ 1000000)
def timB (n : Int) : Bool := decide (0 ≤ n) && decide (n ≤ 1000000)
/-- An event, field by field. -/
structure Ev where
  seq : Int
  time : Int
  run : Int
  kind : Int
  step : ByteArray
  val : ByteArray
def kndB (k : Int) (s v : ByteArray) : Bool :=
  if k = 1 ∨ k = 6 then decide (s = ByteArray.empty) && decide (v = ByteArray.empty)
  else if k = 2 ∨ k = 3 ∨ k = 5 then nrB s && decide (v = ByteArray.empty)
  else if k = 4 then nrB s && decide (v.size ≤ 40) else false
def evB (e : Ev) : Bool := numB e.seq && (numB e.run && (timB e.time && kndB e.kind e.step e.val))
end Go.Proofs.YtdggmeblnbabbaaGreatDoor

/-
  What impl.isTime, spec.l02Is and spec.l02Time answer: contracts over the seat's program.
-/
namespace Go.Proofs.YtdggmeblnbabbaaGreatDoor
open Go.RowKit

theorem rng_yes {a b n : Int} (h1 : a ≤ n) (h2 : n ≤ b) : (decide (a ≤ n) && decide (n ≤ b)) = true := by simp [h1, h2]
theorem rng_no {a b n : Int} (h : ¬ (a ≤ n ∧ n ≤ b)) : (decide (a ≤ n) && decide (n ≤ b)) = false := by
  rw [Bool.and_eq_false_iff]; simp; omega
theorem rng_walk {P : Program} {f : FuncId} {args : Array Value} {a b n : Int}
    (c1 : a ≤ n → n ≤ b → ∀ w, Calls P f args w fun e w' => e = .returned (.bool true) ∧ w' = w) (c2 : a ≤ n → decide (n ≤ b) = false → ∀ w, Calls P f args w fun e w' => e = .returned (.bool false) ∧ w' = w)
    (c3 : n < a → ∀ w, Calls P f args w fun e w' => e = .returned (.bool false) ∧ w' = w) (w : World) : Calls P f args w fun e w' => e = .returned (.bool (decide (a ≤ n) && decide (n ≤ b))) ∧ w' = w := by
  by_cases h1 : a ≤ n
  · by_cases h2 : n ≤ b
    · rw [rng_yes h1 h2]; exact c1 h1 h2 w
    · rw [rng_no (fun h => h2 h.2)]; exact c2 h1 (by simpa using h2) w
  · rw [rng_no (fun h => h1 h.1)]; exact c3 (by omega) w

theorem isTime_any (n : Int) (w : World) :
    Calls Tryz.prog 44 #[.int .i64 n] w fun e w' => e = .returned (.bool (timB n)) ∧ w' = w := by
  refine rng_walk (fun h1 h2 w => ?_) (fun h1 h2 w => ?_) (fun h1 w => ?_) w
  all_goals
    go_enter Tryz.func44, Tryz.ntmps44
    go_wp2
    go_ret
    exact ⟨rfl, rfl⟩
theorem l02Is_any (n a b : Int) (w : World) :
    Calls Tryz.prog 40 #[.int .i64 n, .int .i64 a, .int .i64 b] w fun e w' => e = .returned (.bool (decide (a ≤ n) && decide (n ≤ b))) ∧ w' = w := by
  refine rng_walk (fun h1 h2 w => ?_) (fun h1 h2 w => ?_) (fun h1 w => ?_) w
  all_goals
    go_enter Tryz.func40, Tryz.ntmps40
    go_wp2
    go_ret
    exact ⟨rfl, rfl⟩
theorem l02Time_any (n : Int) (w : World) :
    Calls Tryz.prog 41 #[.int .i64 n] w fun e w' => e = .returned (.bool (timB n)) ∧ w' = w := by
  have c1 := fun w => l02Is_any n 0 1000000 w
  change ∀ w, Calls Tryz.prog 40 _ w fun e w' => e = .returned (.bool (timB n)) ∧ w' = w at c1
  generalize timB n = B at *
  go_enter Tryz.func41, Tryz.ntmps41
  go_wp2_with (go_at_call 40; refine (c1 _).mono ?_; rintro e w1 ⟨rfl, rfl⟩)
  go_ret
  exact ⟨rfl, rfl⟩
end Go.Proofs.YtdggmeblnbabbaaGreatDoor

/-
  What it is for a State to be right: plain mathematics of lists and texts. Of no function.
-/
namespace Go.Proofs.YtdggmeblnbabbaaGreatDoor
open Go.RowKit

theorem less_irr : ∀ a : List UInt8, Op.bytesLess a a = false
  | [] => rfl
  | x :: a => by
    show (decide (x < x) || (x == x && Op.bytesLess a a)) = false
    rw [less_irr a]; simp
theorem less_asym : ∀ a b : List UInt8, Op.bytesLess a b = true → Op.bytesLess b a = false
  | [], [], h => by simp [Op.bytesLess] at h
  | [], _ :: _, _ => rfl
  | _ :: _, [], h => by simp [Op.bytesLess] at h
  | x :: a, y :: b, h => by
    simp only [Op.bytesLess, Bool.or_eq_true, decide_eq_true_eq, Bool.and_eq_true, beq_iff_eq] at h
    simp only [Op.bytesLess, Bool.or_eq_false_iff, decide_eq_false_iff_not, Bool.and_eq_false_iff, beq_eq_false_iff_ne]
    rcases h with h | ⟨rfl, h⟩
    · refine ⟨fun h' => ?_, .inl (fun e => ?_)⟩
      · exact absurd (UInt8.lt_trans h h') (UInt8.lt_irrefl _)
      · subst e; exact absurd h (UInt8.lt_irrefl _)
    · exact ⟨UInt8.lt_irrefl _, .inr (less_asym a b h)⟩
theorem less_tri : ∀ a b : List UInt8, Op.bytesLess a b = true ∨ a = b ∨ Op.bytesLess b a = true
  | [], [] => .inr (.inl rfl)
  | [], _ :: _ => .inl rfl
  | _ :: _, [] => .inr (.inr rfl)
  | x :: a, y :: b => by
    simp only [Op.bytesLess, Bool.or_eq_true, decide_eq_true_eq, Bool.and_eq_true, beq_iff_eq]
    rcases UInt8.lt_or_lt_of_ne (a := x) (b := y) |> fun f => (if h : x = y then Or.inl h else Or.inr (f h)) with h | h | h
    · subst h
      rcases less_tri a b with h | h | h
      · exact .inl (.inr ⟨rfl, h⟩)
      · exact .inr (.inl (by rw [h]))
      · exact .inr (.inr (.inr ⟨rfl, h⟩))
    · exact .inl (.inl h)
    · exact .inr (.inr (.inl h))
theorem toList_inj {a b : ByteArray} (h : a.toList = b.toList) : a = b := by
  rw [ByteArray.toList_eq, ByteArray.toList_eq] at h
  exact ByteArray.ext (Array.toList_inj.1 h)
/-- The order of texts: is a ahead of b? -/
def lt (a b : ByteArray) : Bool := Op.bytesLess a.toList b.toList
/-- A row of texts in their order. -/
def Sorted (l : List ByteArray) : Prop := ∀ i, (h : i + 1 < l.length) → lt l[i + 1] l[i] = false
structure MarksP (ss l : List ByteArray) : Prop where
  mem : ∀ i, (h : i < l.length) → l[i] ∈ ss
  sorted : Sorted l
structure VarsP (l : List Pr) : Prop where
  n : l.length ≤ 20
  nm : ∀ i, (h : i < l.length) → nrB l[i].fst = true ∧ l[i].snd.size ≤ 40
  rise : ∀ i, (h : i + 1 < l.length) → lt l[i].fst l[i + 1].fst = true
/-- A State, field by field. -/
structure St where
  status : Int
  begun : Int
  last : Int
  wait : List ByteArray
  busy : List ByteArray
  vars : List Pr
  faults : Int
structure BegP (ss : List ByteArray) (s : St) : Prop where
  t1 : timB s.begun = true
  t2 : timB s.last = true
  le : s.begun ≤ s.last
  m : s.wait.length + s.busy.length ≤ 40
  w : MarksP ss s.wait
  b : MarksP ss s.busy
  v : VarsP s.vars
  f : timB s.faults = true
structure NoneP (s : St) : Prop where
  w : s.wait.length = 0
  b : s.busy.length = 0
  b0 : s.begun = 0
  l0 : s.last = 0
  v0 : s.vars.length = 0
  f0 : s.faults = 0
structure GoneP (s : St) : Prop where
  w : s.wait.length = 0
  b : s.busy.length = 0
def StP (ss : List ByteArray) (s : St) : Prop := (s.status = 0 ∧ NoneP s) ∨ (s.status = 1 ∧ BegP ss s) ∨ (s.status = 2 ∧ GoneP s ∧ BegP ss s)
theorem stP_0 {ss : List ByteArray} {s : St} (h : s.status = 0) : StP ss s ↔ NoneP s := by
  unfold StP
  constructor
  · rintro (h' | h' | h')
    · exact h'.2
    · have := h'.1; omega
    · have := h'.1; omega
  · exact fun k => .inl ⟨h, k⟩
theorem stP_1 {ss : List ByteArray} {s : St} (h : s.status = 1) : StP ss s ↔ BegP ss s := by
  unfold StP
  constructor
  · rintro (h' | h' | h')
    · have := h'.1; omega
    · exact h'.2
    · have := h'.1; omega
  · exact fun k => .inr (.inl ⟨h, k⟩)
theorem stP_2 {ss : List ByteArray} {s : St} (h : s.status = 2) : StP ss s ↔ GoneP s ∧ BegP ss s := by
  unfold StP
  constructor
  · rintro (h' | h' | h')
    · have := h'.1; omega
    · have := h'.1; omega
    · exact h'.2
  · exact fun k => .inr (.inr ⟨h, k⟩)
theorem stP_no {ss : List ByteArray} {s : St} (h0 : ¬ s.status = 0) (h1 : ¬ s.status = 1) (h2 : ¬ s.status = 2) : ¬ StP ss s := by
  rintro (h' | h' | h')
  · exact h0 h'.1
  · exact h1 h'.1
  · exact h2 h'.1
theorem retB_iff {e : Ending} {p q : Prop} (h : RetB e p) (hpq : p ↔ q) : RetB e q := by
  obtain ⟨B, h1, h2⟩ := h
  exact ⟨B, h1, ⟨fun e => hpq.1 (h2.1 e), fun e => h2.2 (hpq.2 e)⟩⟩
end Go.Proofs.YtdggmeblnbabbaaGreatDoor

/-
  The cells of a slice that came in; append of none. Of no function.
-/
namespace Go.Proofs.YtdggmeblnbabbaaGreatDoor
open Go.RowKit

theorem strs_one (l : List ByteArray) : ∀ u ∈ l.map Value.string, u.oneCell' = true := by
  intro u hu
  obtain ⟨s, _, rfl⟩ := List.mem_map.1 hu
  rfl
theorem run_append_own_nil {P : Program} {w : World} (base : Nat) (t ty e : TypeId) (i : TypeInfo) (size c : Nat) (ht : P.underlying t = some (.slice e)) (hi : P.info? e = some i)
    (v : Value) (n : Nat) (xs : List Value) (hown : w.ownsRow base e size v n xs) :
    (Builtin.append_ #[t, t] ty #[v, .slice none 0 c]).run P w = .ok v w := by
  rcases hown.2 with ⟨rfl, rfl⟩ | ⟨g, cap, cur, rfl, _, _, hnc, _⟩
  · simp [Builtin.append_, run_underlying ht, sizeOf, typeInfo, hi, Builtin.lenOf, Builtin.firstCells]
  · simp [Builtin.append_, run_underlying ht, sizeOf, typeInfo, hi, Builtin.lenOf, Builtin.firstCells, hnc, storeCells]
/-- The cells of a slice: news, one for each cell, at an address, or none at all. -/
def CellsSl (w : World) (v : Value) (size n : Nat) (news : List Value) : Prop :=
  news.length = n * size ∧ (∀ u ∈ news, u.oneCell' = true) ∧ ((∃ c, v = .slice none 0 c ∧ n = 0) ∨ ∃ ad c, v = .slice (some ad) n c ∧ ∀ j u, news[j]? = some u → w.cell? (ad.add j) = some u)
theorem StrSl.cellsSl {w : World} {v : Value} {ss : List ByteArray} (h : StrSl w v ss) : CellsSl w v 1 ss.length (ss.map Value.string) := by
  refine ⟨by simp, strs_one _, ?_⟩
  rcases h with ⟨a, c, rfl, rfl⟩ | ⟨g, o, c, rfl, _, h⟩
  · rcases a with _ | ad
    · exact .inl ⟨c, rfl, rfl⟩
    · exact .inr ⟨ad, c, rfl, fun j u hj => by simp at hj⟩
  · refine .inr ⟨⟨g, o, none⟩, c, rfl, fun j u hj => ?_⟩
    rw [Addr.add_lit]
    rw [List.getElem?_map] at hj
    obtain ⟨s, hs, rfl⟩ := Option.map_eq_some_iff.1 hj
    obtain ⟨hlt, rfl⟩ := List.getElem?_eq_some_iff.1 hs
    exact h.2 j hlt
theorem prs_one (l : List Pr) : ∀ u ∈ l.flatMap Pr.cells, u.oneCell' = true := by
  intro u hu
  obtain ⟨p, _, hp⟩ := List.mem_flatMap.1 hu
  simp [Pr.cells] at hp
  rcases hp with rfl | rfl <;> rfl
theorem PrsAt.cell {w : World} {g o : Nat} {ps : List Pr} (h : PrsAt w g o ps) (j : Nat) (u : Value) (hj : (ps.flatMap Pr.cells)[j]? = some u) : w.cell? ⟨g, o + j, none⟩ = some u := by
  have hl : j < ps.length * 2 := by
    obtain ⟨hlt, _⟩ := List.getElem?_eq_some_iff.1 hj
    rw [pflat_len] at hlt; exact hlt
  have hi : j / 2 < ps.length := by omega
  have e : j = j / 2 * 2 + j % 2 := by omega
  have hm : j % 2 < 2 := by omega
  have k := h.2 (j / 2) hi
  rw [e, pflat_at ps (j / 2) (j % 2) hi hm] at hj
  rw [e]
  rcases (show j % 2 = 0 ∨ j % 2 = 1 by omega) with e0 | e0
  · rw [e0] at hj ⊢
    simp [Pr.cells] at hj
    subst hj
    rw [← Nat.add_assoc]; exact k.c0
  · rw [e0] at hj ⊢
    simp [Pr.cells] at hj
    subst hj
    rw [← Nat.add_assoc]; exact k.c1
theorem PrSl.cellsSl {w : World} {v : Value} {ps : List Pr} (h : PrSl w v ps) : CellsSl w v 2 ps.length (ps.flatMap Pr.cells) := by
  refine ⟨pflat_len ps, prs_one _, ?_⟩
  rcases h with ⟨a, c, rfl, rfl⟩ | ⟨g, o, c, rfl, _, h⟩
  · rcases a with _ | ad
    · exact .inl ⟨c, rfl, rfl⟩
    · exact .inr ⟨ad, c, rfl, fun j u hj => by simp at hj⟩
  · refine .inr ⟨⟨g, o, none⟩, c, rfl, fun j u hj => ?_⟩
    rw [Addr.add_lit]
    exact h.cell j u hj
end Go.Proofs.YtdggmeblnbabbaaGreatDoor
