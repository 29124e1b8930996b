/-
  Texts put together: RunM, DfMath, EvT, StMath, OwnB, ApCe.
-/
import Derived.Test.YthggcdadipjiiaaGreatDoorZNm4
import Derived.Lib.SlicesCompact
import Derived.Test.YthggcdadipjiiaaGreatDoorZStrs4
import Derived.Laws.AppendOwnNone
/-
  The runs of events, rising; a history that is right. Of no function.
-/
namespace Go.Proofs.YthggcdadipjiiaaGreatDoor
open Go.RowKit

/-- The runs of these events, rising. -/
structure IsRuns (es : List Ev) (rs : List Int) : Prop where
  rise : rs.Pairwise (· < ·)
  len : rs.length ≤ es.length
  mem : ∀ r, r ∈ rs ↔ ∃ e ∈ es, e.run = r
theorem isRuns_nil : IsRuns [] [] := ⟨List.Pairwise.nil, Nat.le_refl _, by simp⟩

section
open Go.Lib
theorem compact_mem (d : Array Int) : ∀ (m : Nat) (x : Int), x ∈ compactUpTo d m ↔ ∃ j, j < m ∧ d[j]! = x
  | 0, x => by simp [compactUpTo]
  | m + 1, x => by
    rw [compactUpTo_succ, List.mem_append, compact_mem d m x]
    constructor
    · rintro (⟨j, hj, h⟩ | h)
      · exact ⟨j, by omega, h⟩
      · split at h
        · exact ⟨m, by omega, by simpa using (List.mem_singleton.1 h).symm⟩
        · cases h
    · rintro ⟨j, hj, h⟩
      by_cases e : j = m
      · subst e
        by_cases hk : keeps d j = true
        · exact .inr (by rw [if_pos hk]; simp [h])
        · refine .inl ⟨j - 1, ?_, ?_⟩
          · have : j ≠ 0 := fun e => hk (by subst e; simp [keeps])
            omega
          · have : ¬ (j = 0 ∨ d[j]! ≠ d[j - 1]!) := by simpa [keeps] using hk
            rw [← h]
            exact (Classical.not_not.1 (fun q => this (.inr q))).symm
      · exact .inl ⟨j, by omega, h⟩
theorem compact_rise (d : Array Int) (hs : ∀ i j, i ≤ j → j < d.size → d[i]! ≤ d[j]!) : ∀ m, m ≤ d.size → (compactUpTo d m).Pairwise (· < ·)
  | 0, _ => by simp [compactUpTo]
  | m + 1, hm => by
    rw [compactUpTo_succ]
    refine List.pairwise_append.2 ⟨compact_rise d hs m (by omega), ?_, ?_⟩
    · split <;> simp
    · intro a ha b hb
      split at hb
      · rename_i hk
        obtain rfl : b = d[m]! := by simpa using hb
        obtain ⟨j, hj, rfl⟩ := (compact_mem d m a).1 ha
        have h0 : m ≠ 0 := by omega
        have hne : d[m]! ≠ d[m - 1]! := by
          have : m = 0 ∨ d[m]! ≠ d[m - 1]! := by simpa [keeps] using hk
          exact this.resolve_left h0
        have h1 := hs j (m - 1) (by omega) (by omega)
        have h2 := hs (m - 1) m (by omega) (by omega)
        omega
      · cases hb
theorem runs_sorted (es : List Ev) : IsRuns es (compactUpTo ((es.map Ev.run).mergeSort fun x y => decide (x ≤ y)).toArray ((es.map Ev.run).mergeSort fun x y => decide (x ≤ y)).toArray.size) := by
  generalize hz : (es.map Ev.run).mergeSort (fun x y => decide (x ≤ y)) = zs
  have hp : zs.Perm (es.map Ev.run) := by rw [← hz]; exact List.mergeSort_perm _ _
  have hso : zs.Pairwise (fun x y => x ≤ y) := by
    have := List.pairwise_mergeSort (le := fun x y : Int => decide (x ≤ y)) (fun a b c h1 h2 => by simp only [decide_eq_true_eq] at *; omega) (fun a b => by simp only [Bool.or_eq_true, decide_eq_true_eq]; omega) (es.map Ev.run)
    rw [hz] at this
    exact this.imp (fun h => by simpa using h)
  have hs : ∀ i j, i ≤ j → j < zs.toArray.size → zs.toArray[i]! ≤ zs.toArray[j]! := by
    intro i j hij hj
    have hj' : j < zs.length := by simpa using hj
    have hi' : i < zs.length := by omega
    rw [getElem!_pos zs.toArray i (by simpa using hi'), getElem!_pos zs.toArray j hj]
    rcases Nat.lt_or_ge i j with h | h
    · simpa using List.pairwise_iff_getElem.1 hso i j hi' hj' h
    · obtain rfl : i = j := by omega
      exact Int.le_refl _
  refine ⟨compact_rise _ hs _ (Nat.le_refl _), ?_, fun r => ?_⟩
  · have hl := hp.length_eq
    unfold compactUpTo
    rw [List.length_map]
    refine Nat.le_trans (List.length_filter_le _ _) ?_
    rw [List.length_range]
    simp at hl ⊢
    omega
  rw [compact_mem]
  constructor
  · rintro ⟨j, hj, h⟩
    have hj' : j < zs.length := by simpa using hj
    have hm : r ∈ zs := by
      rw [getElem!_pos zs.toArray j hj] at h
      rw [← h]
      simp
    obtain ⟨e, he, h2⟩ := List.mem_map.1 (hp.mem_iff.1 hm)
    exact ⟨e, he, h2⟩
  · rintro ⟨e, he, rfl⟩
    have hm : e.run ∈ zs := hp.mem_iff.2 (List.mem_map.2 ⟨e, he, rfl⟩)
    obtain ⟨j, hj, h⟩ := List.mem_iff_getElem.1 hm
    exact ⟨j, by simpa using hj, by rw [getElem!_pos zs.toArray j (by simpa using hj)]; simpa using h⟩
end

/-- A run put among others that rise. -/
def putR (rs : List Int) (k : Nat) (r : Int) : List Int := rs.take k ++ r :: rs.drop k
theorem IsRuns.there {es : List Ev} {e : Ev} {rs : List Int} (h : IsRuns es rs) (hm : e.run ∈ rs) : IsRuns (es ++ [e]) rs :=
  ⟨h.rise, by have := h.len; simp; omega, fun r => by
    rw [h.mem]
    constructor
    · rintro ⟨x, hx, rfl⟩; exact ⟨x, by simp [hx], rfl⟩
    · rintro ⟨x, hx, rfl⟩
      rcases List.mem_append.1 hx with hx | hx
      · exact ⟨x, hx, rfl⟩
      · obtain rfl : x = e := by simpa using hx
        exact (h.mem _).1 hm⟩
theorem IsRuns.put {es : List Ev} {e : Ev} {rs : List Int} {k : Nat} (h : IsRuns es rs) (h1 : ∀ i, (hi : i < rs.length) → i < k → rs[i] < e.run) (h2 : ∀ i, (hi : i < rs.length) → k ≤ i → e.run < rs[i]) : IsRuns (es ++ [e]) (putR rs k e.run) := by
  refine ⟨?_, ?_, fun r => ?_⟩
  rotate_left
  · have := h.len
    unfold putR
    simp
    omega
  rotate_left
  · unfold putR
    refine List.pairwise_append.2 ⟨h.rise.sublist (List.take_sublist _ _), List.pairwise_cons.2 ⟨fun b hb => ?_, h.rise.sublist (List.drop_sublist _ _)⟩, fun a ha b hb => ?_⟩
    · obtain ⟨i, hi, rfl⟩ := List.mem_iff_getElem.1 hb
      rw [List.getElem_drop]
      exact h2 _ _ (by omega)
    · obtain ⟨i, hi, rfl⟩ := List.mem_iff_getElem.1 ha
      have hi2 : i < k ∧ i < rs.length := by have q := hi; rw [List.length_take] at q; omega
      rw [List.getElem_take]
      have q1 := h1 i hi2.2 hi2.1
      rcases List.mem_cons.1 hb with rfl | hb
      · exact q1
      · obtain ⟨j, hj, rfl⟩ := List.mem_iff_getElem.1 hb
        rw [List.getElem_drop]
        have q2 := h2 (k + j) (by simp at hj; omega) (by omega)
        omega
  · unfold putR
    rw [List.mem_append, List.mem_cons]
    have hd : r ∈ rs ↔ r ∈ rs.take k ∨ r ∈ rs.drop k := by rw [← List.mem_append, List.take_append_drop]
    constructor
    · rintro (hr | rfl | hr)
      · obtain ⟨x, hx, rfl⟩ := (h.mem _).1 (hd.2 (.inl hr)); exact ⟨x, by simp [hx], rfl⟩
      · exact ⟨e, by simp, rfl⟩
      · obtain ⟨x, hx, rfl⟩ := (h.mem _).1 (hd.2 (.inr hr)); exact ⟨x, by simp [hx], rfl⟩
    · rintro ⟨x, hx, rfl⟩
      rcases List.mem_append.1 hx with hx | hx
      · rcases hd.1 ((h.mem _).2 ⟨x, hx, rfl⟩) with q | q
        · exact .inl q
        · exact .inr (.inr q)
      · obtain rfl : x = e := by simpa using hx
        exact .inr (.inl rfl)
/-- A slice of numbers: empty, or a row somewhere. -/
def IntSl (w : World) (v : Value) (rs : List Int) : Prop :=
  (∃ a c, v = .slice a 0 c ∧ rs = []) ∨ ∃ g o c, v = .slice (some ⟨g, o, none⟩) rs.length c ∧ g < w.heap.size ∧ ∀ i, (h : i < rs.length) → w.cell? ⟨g, o + i, none⟩ = some (.int .i64 rs[i])
theorem IntSl.stay {w w' : World} {v : Value} {rs : List Int} (h : IntSl w v rs) (hb : Below w.heap.size w w') : IntSl w' v rs := by
  rcases h with h | ⟨g, o, c, hv, hg, h⟩
  · exact .inl h
  · exact .inr ⟨g, o, c, hv, Nat.lt_of_lt_of_le hg hb.size, fun i hi => (hb.cell (p := ⟨g, o + i, none⟩) hg).trans (h i hi)⟩
theorem IntSl.form {w : World} {v : Value} {rs : List Int} (h : IntSl w v rs) : ∃ a c, v = .slice a rs.length c := by
  rcases h with ⟨a, c, hv, rfl⟩ | ⟨g, o, c, hv, _⟩
  · exact ⟨a, c, hv⟩
  · exact ⟨_, c, hv⟩
theorem IntSl.row {w : World} {a : Option Addr} {n c : Nat} {rs : List Int} (h : IntSl w (.slice a n c) rs) (h0 : 0 < rs.length) : ∃ g o, a = some ⟨g, o, none⟩ ∧ g < w.heap.size ∧ ∀ i, (h : i < rs.length) → w.cell? ⟨g, o + i, none⟩ = some (.int .i64 rs[i]) := by
  rcases h with ⟨_, _, _, rfl⟩ | ⟨g, o, c', hv, hg, h⟩
  · simp at h0
  · cases hv; exact ⟨g, o, rfl, hg, h⟩
/-- Seqs that rise. -/
def RiseP (es : List Ev) : Prop := ∀ i, (h : i + 1 < es.length) → es[i].seq < es[i + 1].seq
end Go.Proofs.YthggcdadipjiiaaGreatDoor

/-
  What it is for a Def to be right: plain mathematics of lists. Of no function.
-/
namespace Go.Proofs.YthggcdadipjiiaaGreatDoor
open Go.RowKit

theorem nodup_of_take {α : Type} {l : List α} (h : ∀ i, (hi : i < l.length) → l[i] ∉ l.take i) : l.Nodup := by
  rw [List.Nodup, List.pairwise_iff_getElem]
  intro i j hi hj hij e
  exact h j hj (by rw [← e]; exact List.mem_take_iff_getElem.2 ⟨i, by omega, rfl⟩)
theorem twice_of_take {α : Type} {l : List α} {i : Nat} (hi : i < l.length) (h : l[i] ∈ l.take i) : ¬ l.Nodup := by
  intro hn
  rw [List.Nodup, List.pairwise_iff_getElem] at hn
  obtain ⟨j, hj, e⟩ := List.mem_take_iff_getElem.1 h
  exact hn j i (by omega) hi (by omega) e
theorem nodup_take {α : Type} {l : List α} (h : l.Nodup) {i : Nat} (hi : i < l.length) : l[i] ∉ l.take i := fun h' => twice_of_take hi h' h

/-- These steps, these flows: a right Def. -/
structure StepsP (ss : List ByteArray) : Prop where
  n1 : 1 ≤ ss.length
  n2 : ss.length ≤ 12
  nm : ∀ i, (h : i < ss.length) → nrB ss[i] = true
  nd : ss.Nodup
structure FlowsP (ss : List ByteArray) (fs : List Pr) : Prop where
  m : fs.length ≤ 40
  fl : ∀ i, (h : i < fs.length) → fs[i].fst ∈ ss ∧ fs[i].snd ∈ ss
  fd : fs.Nodup
def DefP (ss : List ByteArray) (fs : List Pr) : Prop := StepsP ss ∧ FlowsP ss fs
/-- A Bool that says so. -/
def Tells (b : Bool) (p : Prop) : Prop := b = true ↔ p
theorem Tells.yes {b : Bool} {p : Prop} (h : Tells b p) (hp : p) : b = true := h.2 hp
theorem Tells.no {b : Bool} {p : Prop} (h : Tells b p) (hp : ¬ p) : b = false := by
  cases b with
  | false => rfl
  | true => exact absurd (h.1 rfl) hp
theorem Tells.same {a b : Bool} {p : Prop} (h : Tells a p) (k : Tells b p) : a = b := by
  cases a with
  | true => exact (k.yes (h.1 rfl)).symm
  | false =>
    cases b with
    | false => rfl
    | true => exact h.2 (k.1 rfl)
theorem tells_t {p : Prop} (h : p) : Tells true p := ⟨fun _ => h, fun _ => rfl⟩
theorem tells_f {p : Prop} (h : ¬ p) : Tells false p := ⟨fun e => absurd e (by decide), fun k => absurd k h⟩
/-- A call that ends so tells whether p. -/
def RetB (e : Ending) (p : Prop) : Prop := ∃ B : Bool, e = .returned (.bool B) ∧ Tells B p
theorem retB_t {p : Prop} (h : p) : RetB (.returned (.bool true)) p := ⟨true, rfl, tells_t h⟩
theorem retB_f {p : Prop} (h : ¬ p) : RetB (.returned (.bool false)) p := ⟨false, rfl, tells_f h⟩
theorem RetB.yes {e : Ending} {p : Prop} (h : RetB e p) (hp : p) : e = .returned (.bool true) := by
  obtain ⟨B, rfl, hB⟩ := h; rw [hB.yes hp]
theorem RetB.no {e : Ending} {p : Prop} (h : RetB e p) (hp : ¬ p) : e = .returned (.bool false) := by
  obtain ⟨B, rfl, hB⟩ := h; rw [hB.no hp]
theorem calls_yes {P : Program} {f : FuncId} {args : Array Value} {w : World} {p : Prop} {R : World → Prop} (h : Calls P f args w fun e w' => RetB e p ∧ R w') (hp : p) : Calls P f args w fun e w' => e = .returned (.bool true) ∧ R w' :=
  h.mono fun _ _ ⟨h1, h2⟩ => ⟨h1.yes hp, h2⟩
theorem calls_no {P : Program} {f : FuncId} {args : Array Value} {w : World} {p : Prop} {R : World → Prop} (h : Calls P f args w fun e w' => RetB e p ∧ R w') (hp : ¬ p) : Calls P f args w fun e w' => e = .returned (.bool false) ∧ R w' :=
  h.mono fun _ _ ⟨h1, h2⟩ => ⟨h1.no hp, h2⟩
theorem pr_ext {a b : Pr} (h1 : a.fst = b.fst) (h2 : a.snd = b.snd) : a = b := by
  cases a; cases b; cases h1; cases h2; rfl
/-- The place of a text among others, or -1. -/
def atI (ss : List ByteArray) (t : ByteArray) : Int := match ss.findIdx? (fun x => decide (x = t)) with
  | some k => (k : Int)
  | none => -1
theorem atI_first {ss : List ByteArray} {t : ByteArray} {k : Nat} (hk : k < ss.length) (hn : ∀ j, j < k → (h : j < ss.length) → ss[j] ≠ t) (he : ss[k] = t) : atI ss t = k := by
  unfold atI
  rw [List.findIdx?_eq_some_iff_getElem.2 ⟨hk, by simpa using he, fun j hj => by simpa using hn j hj (by omega)⟩]
theorem atI_out {ss : List ByteArray} {t : ByteArray} (h : t ∉ ss) : atI ss t = -1 := by
  unfold atI
  rw [List.findIdx?_eq_none_iff.2 (fun x hx => by simp; exact fun e => h (e ▸ hx))]
theorem atI_in {ss : List ByteArray} {t : ByteArray} (h : t ∈ ss) : ∃ k : Nat, ∃ hk : k < ss.length, atI ss t = k ∧ ss[k] = t ∧ ∀ j, j < k → (h : j < ss.length) → ss[j] ≠ t := by
  unfold atI
  cases hf : ss.findIdx? (fun x => decide (x = t)) with
  | none => exact absurd (List.findIdx?_eq_none_iff.1 hf t h) (by simp)
  | some k =>
    obtain ⟨hk, h1, h2⟩ := List.findIdx?_eq_some_iff_getElem.1 hf
    exact ⟨k, hk, rfl, by simpa using h1, fun j hj _ => by simpa using h2 j hj⟩
theorem atI_ge {ss : List ByteArray} {t : ByteArray} : 0 ≤ atI ss t ↔ t ∈ ss := by
  by_cases h : t ∈ ss
  · obtain ⟨k, _, e, _⟩ := atI_in h
    rw [e]; exact ⟨fun _ => h, fun _ => by omega⟩
  · rw [atI_out h]; exact ⟨fun e => absurd e (by decide), fun e => absurd e h⟩
/-- Is a text among others? -/
def inB (ss : List ByteArray) (t : ByteArray) : Bool := decide (0 ≤ atI ss t)
theorem inB_yes {ss : List ByteArray} {t : ByteArray} (h : t ∈ ss) : inB ss t = true := decide_eq_true (atI_ge.2 h)
theorem inB_no {ss : List ByteArray} {t : ByteArray} (h : t ∉ ss) : inB ss t = false := decide_eq_false (fun e => h (atI_ge.1 e))
theorem ne_step {α : Type} {l : List α} {t : α} {k : Nat} {hk : k < l.length} (ha : ∀ j, j < k → (h : j < l.length) → l[j] ≠ t) (ho : l[k] ≠ t) : ∀ j, j < k + 1 → (h : j < l.length) → l[j] ≠ t := by
  intro j hj h
  by_cases e : j = k
  · subst e; exact ho
  · exact ha j (by omega) h
theorem ne_all {α : Type} {l : List α} {t : α} {k : Nat} (ha : ∀ j, j < k → (h : j < l.length) → l[j] ≠ t) (hk : l.length ≤ k) : t ∉ l := by
  intro h
  obtain ⟨j, hj, e⟩ := List.mem_iff_getElem.1 h
  exact ha j (by omega) hj e
end Go.Proofs.YthggcdadipjiiaaGreatDoor

/-
  What impl.isTime, spec.l02Is and spec.l02Time answer: contracts over the seat's program.
-/
namespace Go.Proofs.YthggcdadipjiiaaGreatDoor
open Go.RowKit

theorem rng_yes {a b n : Int} (h1 : a ≤ n) (h2 : n ≤ b) : (decide (a ≤ n) && decide (n ≤ b)) = true := by simp [h1, h2]
theorem rng_no {a b n : Int} (h : ¬ (a ≤ n ∧ n ≤ b)) : (decide (a ≤ n) && decide (n ≤ b)) = false := by
  rw [Bool.and_eq_false_iff]; simp; omega
theorem rng_walk {P : Program} {f : FuncId} {args : Array Value} {a b n : Int}
    (c1 : a ≤ n → n ≤ b → ∀ w, Calls P f args w fun e w' => e = .returned (.bool true) ∧ w' = w) (c2 : a ≤ n → decide (n ≤ b) = false → ∀ w, Calls P f args w fun e w' => e = .returned (.bool false) ∧ w' = w)
    (c3 : n < a → ∀ w, Calls P f args w fun e w' => e = .returned (.bool false) ∧ w' = w) (w : World) : Calls P f args w fun e w' => e = .returned (.bool (decide (a ≤ n) && decide (n ≤ b))) ∧ w' = w := by
  by_cases h1 : a ≤ n
  · by_cases h2 : n ≤ b
    · rw [rng_yes h1 h2]; exact c1 h1 h2 w
    · rw [rng_no (fun h => h2 h.2)]; exact c2 h1 (by simpa using h2) w
  · rw [rng_no (fun h => h1 h.1)]; exact c3 (by omega) w

theorem isTime_any (n : Int) (w : World) :
    Calls Tryz.prog 151 #[.int .i64 n] w fun e w' => e = .returned (.bool (timB n)) ∧ w' = w := by
  refine rng_walk (fun h1 h2 w => ?_) (fun h1 h2 w => ?_) (fun h1 w => ?_) w
  all_goals
    go_enter Tryz.func151, Tryz.ntmps151
    go_wp2
    go_ret
    exact ⟨rfl, rfl⟩
theorem l02Is_any (n a b : Int) (w : World) :
    Calls Tryz.prog 81 #[.int .i64 n, .int .i64 a, .int .i64 b] w fun e w' => e = .returned (.bool (decide (a ≤ n) && decide (n ≤ b))) ∧ w' = w := by
  refine rng_walk (fun h1 h2 w => ?_) (fun h1 h2 w => ?_) (fun h1 w => ?_) w
  all_goals
    go_enter Tryz.func81, Tryz.ntmps81
    go_wp2
    go_ret
    exact ⟨rfl, rfl⟩
theorem l02Time_any (n : Int) (w : World) :
    Calls Tryz.prog 82 #[.int .i64 n] w fun e w' => e = .returned (.bool (timB n)) ∧ w' = w := by
  have c1 := fun w => l02Is_any n 0 1000000 w
  change ∀ w, Calls Tryz.prog 81 _ w fun e w' => e = .returned (.bool (timB n)) ∧ w' = w at c1
  generalize timB n = B at *
  go_enter Tryz.func82, Tryz.ntmps82
  go_wp2_with (go_at_call 81; refine (c1 _).mono ?_; rintro e w1 ⟨rfl, rfl⟩)
  go_ret
  exact ⟨rfl, rfl⟩
end Go.Proofs.YthggcdadipjiiaaGreatDoor

/-
  What it is for a State to be right: plain mathematics of lists and texts. Of no function.
-/
namespace Go.Proofs.YthggcdadipjiiaaGreatDoor
open Go.RowKit

theorem less_irr : ∀ a : List UInt8, Op.bytesLess a a = false
  | [] => rfl
  | x :: a => by
    show (decide (x < x) || (x == x && Op.bytesLess a a)) = false
    rw [less_irr a]; simp
theorem less_asym : ∀ a b : List UInt8, Op.bytesLess a b = true → Op.bytesLess b a = false
  | [], [], h => by simp [Op.bytesLess] at h
  | [], _ :: _, _ => rfl
  | _ :: _, [], h => by simp [Op.bytesLess] at h
  | x :: a, y :: b, h => by
    simp only [Op.bytesLess, Bool.or_eq_true, decide_eq_true_eq, Bool.and_eq_true, beq_iff_eq] at h
    simp only [Op.bytesLess, Bool.or_eq_false_iff, decide_eq_false_iff_not, Bool.and_eq_false_iff, beq_eq_false_iff_ne]
    rcases h with h | ⟨rfl, h⟩
    · refine ⟨fun h' => ?_, .inl (fun e => ?_)⟩
      · exact absurd (UInt8.lt_trans h h') (UInt8.lt_irrefl _)
      · subst e; exact absurd h (UInt8.lt_irrefl _)
    · exact ⟨UInt8.lt_irrefl _, .inr (less_asym a b h)⟩
theorem less_tri : ∀ a b : List UInt8, Op.bytesLess a b = true ∨ a = b ∨ Op.bytesLess b a = true
  | [], [] => .inr (.inl rfl)
  | [], _ :: _ => .inl rfl
  | _ :: _, [] => .inr (.inr rfl)
  | x :: a, y :: b => by
    simp only [Op.bytesLess, Bool.or_eq_true, decide_eq_true_eq, Bool.and_eq_true, beq_iff_eq]
    rcases UInt8.lt_or_lt_of_ne (a := x) (b := y) |> fun f => (if h : x = y then Or.inl h else Or.inr (f h)) with h | h | h
    · subst h
      rcases less_tri a b with h | h | h
      · exact .inl (.inr ⟨rfl, h⟩)
      · exact .inr (.inl (by rw [h]))
      · exact .inr (.inr (.inr ⟨rfl, h⟩))
    · exact .inl (.inl h)
    · exact .inr (.inr (.inl h))
theorem toList_inj {a b : ByteArray} (h : a.toList = b.toList) : a = b := by
  rw [ByteArray.toList_eq, ByteArray.toList_eq] at h
  exact ByteArray.ext (Array.toList_inj.1 h)
/-- The order of texts: is a ahead of b? -/
def lt (a b : ByteArray) : Bool := Op.bytesLess a.toList b.toList
/-- A row of texts in their order. -/
def Sorted (l : List ByteArray) : Prop := ∀ i, (h : i + 1 < l.length) → lt l[i + 1] l[i] = false
structure MarksP (ss l : List ByteArray) : Prop where
  mem : ∀ i, (h : i < l.length) → l[i] ∈ ss
  sorted : Sorted l
structure VarsP (l : List Pr) : Prop where
  n : l.length ≤ 20
  nm : ∀ i, (h : i < l.length) → nrB l[i].fst = true ∧ l[i].snd.size ≤ 40
  rise : ∀ i, (h : i + 1 < l.length) → lt l[i].fst l[i + 1].fst = true
/-- A State, field by field. -/
structure St where
  status : Int
  begun : Int
  last : Int
  wait : List ByteArray
  busy : List ByteArray
  vars : List Pr
  faults : Int
structure BegP (ss : List ByteArray) (s : St) : Prop where
  t1 : timB s.begun = true
  t2 : timB s.last = true
  le : s.begun ≤ s.last
  m : s.wait.length + s.busy.length ≤ 40
  w : MarksP ss s.wait
  b : MarksP ss s.busy
  v : VarsP s.vars
  f : timB s.faults = true
structure NoneP (s : St) : Prop where
  w : s.wait.length = 0
  b : s.busy.length = 0
  b0 : s.begun = 0
  l0 : s.last = 0
  v0 : s.vars.length = 0
  f0 : s.faults = 0
structure GoneP (s : St) : Prop where
  w : s.wait.length = 0
  b : s.busy.length = 0
def StP (ss : List ByteArray) (s : St) : Prop := (s.status = 0 ∧ NoneP s) ∨ (s.status = 1 ∧ BegP ss s) ∨ (s.status = 2 ∧ GoneP s ∧ BegP ss s)
theorem stP_0 {ss : List ByteArray} {s : St} (h : s.status = 0) : StP ss s ↔ NoneP s := by
  unfold StP
  constructor
  · rintro (h' | h' | h')
    · exact h'.2
    · have := h'.1; omega
    · have := h'.1; omega
  · exact fun k => .inl ⟨h, k⟩
theorem stP_1 {ss : List ByteArray} {s : St} (h : s.status = 1) : StP ss s ↔ BegP ss s := by
  unfold StP
  constructor
  · rintro (h' | h' | h')
    · have := h'.1; omega
    · exact h'.2
    · have := h'.1; omega
  · exact fun k => .inr (.inl ⟨h, k⟩)
end Go.Proofs.YthggcdadipjiiaaGreatDoor

/-
  A row of one's own: it stays, its base may be lower, its forms. Of no function.
-/
namespace Go.Proofs.YthggcdadipjiiaaGreatDoor
open Go.RowKit

theorem Tryz.infoStr : (Tryz.prog.info? 9).map (fun i => (i.zero, i.size, i.bytes)) = some (some (.string ⟨#[]⟩), 1, 16) := by kernel_rfl
theorem ownB_stay {w w' : World} {base size n : Nat} {e : TypeId} {v : Value} {xs : List Value} (h : w.ownsRow base e size v n xs) (hb : Below w.heap.size w w') : w'.ownsRow base e size v n xs :=
  h.kept (grown_below (r := none) hb) (by cases v.ownBlock with
    | none => exact .inl rfl
    | some k => exact .inr (by simp))
theorem ownB_le {w : World} {base base' size n : Nat} {e : TypeId} {v : Value} {xs : List Value} (h : w.ownsRow base e size v n xs) (hb : base' ≤ base) : w.ownsRow base' e size v n xs :=
  ⟨h.1, h.2.imp id (fun ⟨g, cap, cur, a, b, c⟩ => ⟨g, cap, cur, a, Nat.le_trans hb b, c⟩)⟩
theorem ownB_form {w : World} {base size n : Nat} {e : TypeId} {v : Value} {xs : List Value} (h : w.ownsRow base e size v n xs) : ∃ a c, v = .slice a n c := by
  rcases h.2 with ⟨h0, rfl⟩ | ⟨g, cap, _, hv, _⟩
  · exact ⟨none, 0, h0⟩
  · exact ⟨_, cap, hv⟩
end Go.Proofs.YthggcdadipjiiaaGreatDoor

/-
  The cells of a slice that came in; append of none. Of no function.
-/
namespace Go.Proofs.YthggcdadipjiiaaGreatDoor
open Go.RowKit

theorem strs_one (l : List ByteArray) : ∀ u ∈ l.map Value.string, u.oneCell' = true := by
  intro u hu
  obtain ⟨s, _, rfl⟩ := List.mem_map.1 hu
  rfl
theorem run_append_own_nil {P : Program} {w : World} (base : Nat) (t ty e : TypeId) (i : TypeInfo) (size c : Nat) (ht : P.underlying t = some (.slice e)) (hi : P.info? e = some i)
    (v : Value) (n : Nat) (xs : List Value) (hown : w.ownsRow base e size v n xs) :
    (Builtin.append_ #[t, t] ty #[v, .slice none 0 c]).run P w = .ok v w := by
  rcases hown.2 with ⟨rfl, rfl⟩ | ⟨g, cap, cur, rfl, _, _, hnc, _⟩
  · simp [Builtin.append_, run_underlying ht, sizeOf, typeInfo, hi, Builtin.lenOf, Builtin.firstCells]
  · simp [Builtin.append_, run_underlying ht, sizeOf, typeInfo, hi, Builtin.lenOf, Builtin.firstCells, hnc, storeCells]
/-- The cells of a slice: news, one for each cell, at an address, or none at all. -/
def CellsSl (w : World) (v : Value) (size n : Nat) (news : List Value) : Prop :=
  news.length = n * size ∧ (∀ u ∈ news, u.oneCell' = true) ∧ ((∃ c, v = .slice none 0 c ∧ n = 0) ∨ ∃ ad c, v = .slice (some ad) n c ∧ ∀ j u, news[j]? = some u → w.cell? (ad.add j) = some u)
theorem StrSl.cellsSl {w : World} {v : Value} {ss : List ByteArray} (h : StrSl w v ss) : CellsSl w v 1 ss.length (ss.map Value.string) := by
  refine ⟨by simp, strs_one _, ?_⟩
  rcases h with ⟨a, c, rfl, rfl⟩ | ⟨g, o, c, rfl, _, h⟩
  · rcases a with _ | ad
    · exact .inl ⟨c, rfl, rfl⟩
    · exact .inr ⟨ad, c, rfl, fun j u hj => by simp at hj⟩
  · refine .inr ⟨⟨g, o, none⟩, c, rfl, fun j u hj => ?_⟩
    rw [Addr.add_lit]
    rw [List.getElem?_map] at hj
    obtain ⟨s, hs, rfl⟩ := Option.map_eq_some_iff.1 hj
    obtain ⟨hlt, rfl⟩ := List.getElem?_eq_some_iff.1 hs
    exact h.2 j hlt
theorem prs_one (l : List Pr) : ∀ u ∈ l.flatMap Pr.cells, u.oneCell' = true := by
  intro u hu
  obtain ⟨p, _, hp⟩ := List.mem_flatMap.1 hu
  simp [Pr.cells] at hp
  rcases hp with rfl | rfl <;> rfl
theorem PrsAt.cell {w : World} {g o : Nat} {ps : List Pr} (h : PrsAt w g o ps) (j : Nat) (u : Value) (hj : (ps.flatMap Pr.cells)[j]? = some u) : w.cell? ⟨g, o + j, none⟩ = some u := by
  have hl : j < ps.length * 2 := by
    obtain ⟨hlt, _⟩ := List.getElem?_eq_some_iff.1 hj
    rw [pflat_len] at hlt; exact hlt
  have hi : j / 2 < ps.length := by omega
  have e : j = j / 2 * 2 + j % 2 := by omega
  have hm : j % 2 < 2 := by omega
  have k := h.2 (j / 2) hi
  rw [e, pflat_at ps (j / 2) (j % 2) hi hm] at hj
  rw [e]
  rcases (show j % 2 = 0 ∨ j % 2 = 1 by omega) with e0 | e0
  · rw [e0] at hj ⊢
    simp [Pr.cells] at hj
    subst hj
    rw [← Nat.add_assoc]; exact k.c0
  · rw [e0] at hj ⊢
    simp [Pr.cells] at hj
    subst hj
    rw [← Nat.add_assoc]; exact k.c1
theorem PrSl.cellsSl {w : World} {v : Value} {ps : List Pr} (h : PrSl w v ps) : CellsSl w v 2 ps.length (ps.flatMap Pr.cells) := by
  refine ⟨pflat_len ps, prs_one _, ?_⟩
  rcases h with ⟨a, c, rfl, rfl⟩ | ⟨g, o, c, rfl, _, h⟩
  · rcases a with _ | ad
    · exact .inl ⟨c, rfl, rfl⟩
    · exact .inr ⟨ad, c, rfl, fun j u hj => by simp at hj⟩
  · refine .inr ⟨⟨g, o, none⟩, c, rfl, fun j u hj => ?_⟩
    rw [Addr.add_lit]
    exact h.cell j u hj
end Go.Proofs.YthggcdadipjiiaaGreatDoor
