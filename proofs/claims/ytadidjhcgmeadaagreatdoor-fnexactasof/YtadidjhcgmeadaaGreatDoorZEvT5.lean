/-
  Texts put together: EvT, Ev, EvS, AggS, RunM.
-/
import Derived.Test.YtadidjhcgmeadaaGreatDoorZAggD2
import Derived.Test.YtadidjhcgmeadaaGreatDoorZAgg6
import Derived.DataReads
import Derived.Lib.SlicesCompact
/-
  What impl.isTime, spec.l02Is and spec.l02Time answer: contracts over the seat's program.
-/
namespace Go.Proofs.YtadidjhcgmeadaaGreatDoor
open Go.RowKit

def numB (n : Int) : Bool := decide (1 ≤ n) && decide (n ≤ 1000000)
def timB (n : Int) : Bool := decide (0 ≤ n) && decide (n ≤ 1000000)
theorem rng_yes {a b n : Int} (h1 : a ≤ n) (h2 : n ≤ b) : (decide (a ≤ n) && decide (n ≤ b)) = true := by simp [h1, h2]
theorem rng_no {a b n : Int} (h : ¬ (a ≤ n ∧ n ≤ b)) : (decide (a ≤ n) && decide (n ≤ b)) = false := by
  rw [Bool.and_eq_false_iff]; simp; omega
theorem rng_walk {P : Program} {f : FuncId} {args : Array Value} {a b n : Int}
    (c1 : a ≤ n → n ≤ b → ∀ w, Calls P f args w fun e w' => e = .returned (.bool true) ∧ w' = w) (c2 : a ≤ n → decide (n ≤ b) = false → ∀ w, Calls P f args w fun e w' => e = .returned (.bool false) ∧ w' = w)
    (c3 : n < a → ∀ w, Calls P f args w fun e w' => e = .returned (.bool false) ∧ w' = w) (w : World) : Calls P f args w fun e w' => e = .returned (.bool (decide (a ≤ n) && decide (n ≤ b))) ∧ w' = w := by
  by_cases h1 : a ≤ n
  · by_cases h2 : n ≤ b
    · rw [rng_yes h1 h2]; exact c1 h1 h2 w
    · rw [rng_no (fun h => h2 h.2)]; exact c2 h1 (by simpa using h2) w
  · rw [rng_no (fun h => h1 h.1)]; exact c3 (by omega) w

theorem isTime_any (n : Int) (w : World) :
    Calls Tryz.prog 56 #[.int .i64 n] w fun e w' => e = .returned (.bool (timB n)) ∧ w' = w := by
  refine rng_walk (fun h1 h2 w => ?_) (fun h1 h2 w => ?_) (fun h1 w => ?_) w
  all_goals
    go_enter Tryz.func56, Tryz.ntmps56
    go_wp2
    go_ret
    exact ⟨rfl, rfl⟩
theorem l02Is_any (n a b : Int) (w : World) :
    Calls Tryz.prog 64 #[.int .i64 n, .int .i64 a, .int .i64 b] w fun e w' => e = .returned (.bool (decide (a ≤ n) && decide (n ≤ b))) ∧ w' = w := by
  refine rng_walk (fun h1 h2 w => ?_) (fun h1 h2 w => ?_) (fun h1 w => ?_) w
  all_goals
    go_enter Tryz.func64, Tryz.ntmps64
    go_wp2
    go_ret
    exact ⟨rfl, rfl⟩
theorem l02Time_any (n : Int) (w : World) :
    Calls Tryz.prog 53 #[.int .i64 n] w fun e w' => e = .returned (.bool (timB n)) ∧ w' = w := by
  have c1 := fun w => l02Is_any n 0 1000000 w
  change ∀ w, Calls Tryz.prog 64 _ w fun e w' => e = .returned (.bool (timB n)) ∧ w' = w at c1
  generalize timB n = B at *
  go_enter Tryz.func53, Tryz.ntmps53
  go_wp2_with (go_at_call 64; refine (c1 _).mono ?_; rintro e w1 ⟨rfl, rfl⟩)
  go_ret
  exact ⟨rfl, rfl⟩
end Go.Proofs.YtadidjhcgmeadaaGreatDoor

/-
  Events: what it is for one to be right; what impl.isNumber answers: a contract over the seat's program.
-/
namespace Go.Proofs.YtadidjhcgmeadaaGreatDoor
open Go.RowKit

/-- An event, field by field. -/
structure Ev where
  seq : Int
  time : Int
  run : Int
  kind : Int
  step : ByteArray
  val : ByteArray

def kndB (k : Int) (s v : ByteArray) : Bool :=
  if k = 1 ∨ k = 6 then decide (s = ByteArray.empty) && decide (v = ByteArray.empty)
  else if k = 2 ∨ k = 3 ∨ k = 5 then nrB s && decide (v = ByteArray.empty)
  else if k = 4 then nrB s && decide (v.size ≤ 40) else false
def evB (e : Ev) : Bool := numB e.seq && (numB e.run && (timB e.time && kndB e.kind e.step e.val))

theorem isNumber_any (n : Int) (w : World) :
    Calls Tryz.prog 65 #[.int .i64 n] w fun e w' => e = .returned (.bool (numB n)) ∧ w' = w := by
  refine rng_walk (fun h1 h2 w => ?_) (fun h1 h2 w => ?_) (fun h1 w => ?_) w
  all_goals
    go_enter Tryz.func65, Tryz.ntmps65
    go_wp2
    go_ret
    exact ⟨rfl, rfl⟩
end Go.Proofs.YtadidjhcgmeadaaGreatDoor

/-
  Rows of events in memory: what it is that a slice holds these events, and that it stays so. Of no function.
-/
namespace Go.Proofs.YtadidjhcgmeadaaGreatDoor
open Go.RowKit

def Ev.cells (e : Ev) : List Value := [.int .i64 e.seq, .int .i64 e.time, .int .i64 e.run, .int .i64 e.kind, .string e.step, .string e.val]
/-- An event at a place. -/
structure EvAt (w : World) (g o : Nat) (e : Ev) : Prop where
  c0 : w.cell? ⟨g, o, none⟩ = some (.int .i64 e.seq)
  c1 : w.cell? ⟨g, o + 1, none⟩ = some (.int .i64 e.time)
  c2 : w.cell? ⟨g, o + 2, none⟩ = some (.int .i64 e.run)
  c3 : w.cell? ⟨g, o + 3, none⟩ = some (.int .i64 e.kind)
  c4 : w.cell? ⟨g, o + 4, none⟩ = some (.string e.step)
  c5 : w.cell? ⟨g, o + 5, none⟩ = some (.string e.val)
/-- A row of events, from a place on. -/
def EvsAt (w : World) (g o : Nat) (es : List Ev) : Prop := g < w.heap.size ∧ ∀ i, (h : i < es.length) → EvAt w g (o + i * 6) es[i]
/-- What a slice of events is: empty, or a row somewhere. -/
def EvSl (w : World) (v : Value) (es : List Ev) : Prop :=
  (∃ a c, v = .slice a 0 c ∧ es = []) ∨ ∃ g o c, v = .slice (some ⟨g, o, none⟩) es.length c ∧ 0 < es.length ∧ EvsAt w g o es

theorem EvAt.below {w w' : World} {B g o : Nat} {e : Ev} (h : EvAt w g o e) (hb : Below B w w') (hg : g < B) : EvAt w' g o e :=
  ⟨by rw [hb.cell (p := ⟨g, o, none⟩) hg]; exact h.c0, by rw [hb.cell (p := ⟨g, o + 1, none⟩) hg]; exact h.c1, by rw [hb.cell (p := ⟨g, o + 2, none⟩) hg]; exact h.c2,
   by rw [hb.cell (p := ⟨g, o + 3, none⟩) hg]; exact h.c3, by rw [hb.cell (p := ⟨g, o + 4, none⟩) hg]; exact h.c4, by rw [hb.cell (p := ⟨g, o + 5, none⟩) hg]; exact h.c5⟩
theorem EvsAt.below {w w' : World} {B g o : Nat} {es : List Ev} (h : EvsAt w g o es) (hb : Below B w w') (hg : g < B) : EvsAt w' g o es :=
  ⟨Nat.lt_of_lt_of_le h.1 hb.size, fun i hi => (h.2 i hi).below hb hg⟩
theorem EvsAt.stay {w w' : World} {B g o : Nat} {es : List Ev} (h : EvsAt w g o es) (hb : Below B w w') (hB : w.heap.size ≤ B) : EvsAt w' g o es := h.below hb (Nat.lt_of_lt_of_le h.1 hB)
theorem EvSl.stay {w w' : World} {B : Nat} {v : Value} {es : List Ev} (h : EvSl w v es) (hb : Below B w w') (hB : w.heap.size ≤ B) : EvSl w' v es := by
  rcases h with h | ⟨g, o, c, hv, hn, h⟩
  · exact .inl h
  · exact .inr ⟨g, o, c, hv, hn, h.stay hb hB⟩

theorem flat_at : ∀ (es : List Ev) (i j : Nat), (h : i < es.length) → j < 6 → (es.flatMap Ev.cells)[i * 6 + j]? = es[i].cells[j]?
  | [], i, _, h, _ => absurd h (by simp)
  | e :: r, 0, j, _, hj => by
    rw [List.flatMap_cons, List.getElem?_append_left (by simpa [Ev.cells] using hj)]
    simp
  | e :: r, i + 1, j, h, hj => by
    have hi : i < r.length := by simpa using h
    have h6 : e.cells.length = 6 := rfl
    rw [List.flatMap_cons, List.getElem?_append_right (by omega), h6, show (i + 1) * 6 + j - 6 = i * 6 + j by omega, flat_at r i j hi hj]
    simp
theorem flat_len (es : List Ev) : (es.flatMap Ev.cells).length = es.length * 6 := by
  induction es with
  | nil => rfl
  | cons e r ih => rw [List.flatMap_cons, List.length_append, ih]; simp [Ev.cells]; omega

theorem at_of_cells {w : World} {g : Nat} {es : List Ev} (hc : ∀ j u, (es.flatMap Ev.cells)[j]? = some u → w.cell? ((⟨g, 0, none⟩ : Addr).add j) = some u) (i : Nat) (h : i < es.length) : EvAt w g (0 + i * 6) es[i] := by
  have key : ∀ j u, j < 6 → es[i].cells[j]? = some u → w.cell? ⟨g, 0 + i * 6 + j, none⟩ = some u := by
    intro j u hj hu
    have := hc (i * 6 + j) u (by rw [flat_at es i j h hj]; exact hu)
    rw [Addr.add_lit] at this
    rwa [Nat.add_assoc]
  exact ⟨key 0 _ (by decide) rfl, key 1 _ (by decide) rfl, key 2 _ (by decide) rfl, key 3 _ (by decide) rfl, key 4 _ (by decide) rfl, key 5 _ (by decide) rfl⟩
/-- A row that a call owns, of events. -/
theorem sl_of_own {w : World} {base n : Nat} {e : TypeId} {v : Value} {es : List Ev} (h : w.ownsRow base e 6 v n (es.flatMap Ev.cells)) : EvSl w v es := by
  have hn : n = es.length := by have := h.1; rw [flat_len] at this; omega
  subst hn
  rcases h.2 with ⟨hv, h0⟩ | ⟨g, cap, cur, hv, _⟩
  · exact .inl ⟨none, 0, hv, List.eq_nil_of_length_eq_zero h0⟩
  · by_cases h0 : es.length = 0
    · exact .inl ⟨some ⟨g, 0, none⟩, cap, by rw [hv, h0], List.eq_nil_of_length_eq_zero h0⟩
    · have hlt := (h.lt g (by rw [hv]; rfl)).2
      exact .inr ⟨g, 0, cap, hv, by omega, hlt, fun i hi => at_of_cells (h.cells (by rw [hv]; rfl)) i hi⟩
/-- The texts of these events can be handed about. -/
def Fit (es : List Ev) : Prop := ∀ i, (h : i < es.length) → es[i].step.size ≤ maxLen ∧ es[i].val.size ≤ maxLen
end Go.Proofs.YtadidjhcgmeadaaGreatDoor

/-
  A slice of events that came in as data: what it holds. Of no function: one law of reading.
-/
namespace Go.Proofs.YtadidjhcgmeadaaGreatDoor
open Go.ChangeShapes Go.WideShapes Go.RowKit Go.Deep Go.WideElems

section
variable {H : Type} {enc : TypeId × Value → H} {P : Program} {w : World}

theorem evat_of_cells {a : Addr} {i : Nat} {ev : Ev} (h : w.cells? 0 (a.add (i * 6)) 6 = some ev.cells) (hs : a.spot = none) : EvAt w a.block (a.off + i * 6) ev := by
  obtain ⟨b, o, s⟩ := a
  simp at hs
  subst hs
  obtain ⟨_, _, hc⟩ := World.cells?_some h
  rw [Addr.add_lit] at hc
  have key : ∀ j, j < 6 → w.cell? ⟨b, o + i * 6 + j, none⟩ = ev.cells[j]? := fun j hj => by
    have := hc j hj
    rwa [Addr.add_lit] at this
  exact ⟨key 0 (by decide), key 1 (by decide), key 2 (by decide), key 3 (by decide), key 4 (by decide), key 5 (by decide)⟩

/-- A slice of structs of four int64 and two strings, read: its events. -/
theorem evs_value {t e : TypeId} {f0 f1 f2 f3 f4 f5 : Field} {a0 : Option Addr} {len cap : Nat} {D : DataW H} {p : List MemPlace} (hsl : P.underlying t = some (.slice e)) (ht : P.underlying e = some (.struct #[f0, f1, f2, f3, f4, f5])) (hone : oneCellFields P #[f0, f1, f2, f3, f4, f5] = true) (hC : P.cellsOf e = 6)
    (u0 : P.underlying f0.type = some (.int .i64)) (u1 : P.underlying f1.type = some (.int .i64)) (u2 : P.underlying f2.type = some (.int .i64)) (u3 : P.underlying f3.type = some (.int .i64)) (u4 : P.underlying f4.type = some .string) (u5 : P.underlying f5.type = some .string)
    (h : DataW.Trod enc P w 0 (fun _ => true) true t (.slice a0 len cap) D p) : ∃ es : List Ev, EvSl w (.slice a0 len cap) es ∧ Fit es ∧ es.length ≤ maxLen := by
  obtain ⟨fuel, hf⟩ := h
  rcases open_slice hsl hf with ⟨hcs, _⟩ | ⟨a, len', cap', m, n, D', Pl, hcs, _, hl, hm, hmm, _, hel⟩
  · simp [Value.cells] at hcs
    obtain ⟨rfl, rfl, rfl⟩ := hcs
    exact ⟨[], .inl ⟨none, 0, rfl, rfl⟩, fun i hi => absurd hi (by simp), Nat.zero_le _⟩
  · simp [Value.cells] at hcs
    obtain ⟨rfl, rfl, rfl⟩ := hcs
    simp only [if_true] at hmm
    subst hmm
    have hex : ∀ i, i < len → ∃ ev : Ev, w.cells? 0 (a.add (i * 6)) 6 = some ev.cells ∧ ev.step.size ≤ maxLen ∧ ev.val.size ≤ maxLen := by
      intro i hi
      obtain ⟨cs', h1, h2⟩ := hel i (by omega)
      rw [hC] at h1
      obtain ⟨x0, x1, x2, x3, s, v, rfl, _, _, _, _, hs, hv⟩ := ev_cells ht hone hC u0 u1 u2 u3 u4 u5 h2
      exact ⟨⟨x0, x1, x2, x3, s, v⟩, h1, hs, hv⟩
    obtain ⟨f, hfx⟩ : ∃ f : Nat → Ev, ∀ i, i < len → w.cells? 0 (a.add (i * 6)) 6 = some (f i).cells ∧ (f i).step.size ≤ maxLen ∧ (f i).val.size ≤ maxLen := by
      refine ⟨fun i => if hi : i < len then Classical.choose (hex i hi) else ⟨0, 0, 0, 0, ByteArray.empty, ByteArray.empty⟩, fun i hi => ?_⟩
      simp only [dif_pos hi]
      exact Classical.choose_spec (hex i hi)
    refine ⟨(List.range len).map f, ?_, ?_, by simp; omega⟩
    · by_cases h0 : len = 0
      · subst h0
        exact .inl ⟨some a, m, rfl, rfl⟩
      · have hc0 := (hfx 0 (by omega)).1
        have hspot : a.spot = none := by
          obtain ⟨_, _, hc⟩ := World.cells?_some hc0
          have := World.cell?_spot (hc 0 (by decide))
          simpa [Addr.add] using this
        have hblk : a.block < w.heap.size := by
          have := World.cells?_block hc0 (by decide)
          simpa [Addr.add] using this
        refine .inr ⟨a.block, a.off, m, ?_, by simp; omega, hblk, fun i hi => ?_⟩
        · obtain ⟨b, o, s⟩ := a
          simp at hspot
          subst hspot
          simp
        · have hi' : i < len := by simpa using hi
          simpa using evat_of_cells (hfx i hi').1 hspot
    · intro i hi
      have hi' : i < len := by simpa using hi
      simpa using (hfx i hi').2
end
end Go.Proofs.YtadidjhcgmeadaaGreatDoor

/-
  The runs of events, rising; a history that is right. Of no function.
-/
namespace Go.Proofs.YtadidjhcgmeadaaGreatDoor
open Go.RowKit

/-- The runs of these events, rising. -/
structure IsRuns (es : List Ev) (rs : List Int) : Prop where
  rise : rs.Pairwise (· < ·)
  len : rs.length ≤ es.length
  mem : ∀ r, r ∈ rs ↔ ∃ e ∈ es, e.run = r
theorem isRuns_nil : IsRuns [] [] := ⟨List.Pairwise.nil, Nat.le_refl _, by simp⟩

section
open Go.Lib
theorem compact_mem (d : Array Int) : ∀ (m : Nat) (x : Int), x ∈ compactUpTo d m ↔ ∃ j, j < m ∧ d[j]! = x
  | 0, x => by simp [compactUpTo]
  | m + 1, x => by
    rw [compactUpTo_succ, List.mem_append, compact_mem d m x]
    constructor
    · rintro (⟨j, hj, h⟩ | h)
      · exact ⟨j, by omega, h⟩
      · split at h
        · exact ⟨m, by omega, by simpa using (List.mem_singleton.1 h).symm⟩
        · cases h
    · rintro ⟨j, hj, h⟩
      by_cases e : j = m
      · subst e
        by_cases hk : keeps d j = true
        · exact .inr (by rw [if_pos hk]; simp [h])
        · refine .inl ⟨j - 1, ?_, ?_⟩
          · have : j ≠ 0 := fun e => hk (by subst e; simp [keeps])
            omega
          · have : ¬ (j = 0 ∨ d[j]! ≠ d[j - 1]!) := by simpa [keeps] using hk
            rw [← h]
            exact (Classical.not_not.1 (fun q => this (.inr q))).symm
      · exact .inl ⟨j, by omega, h⟩
theorem compact_rise (d : Array Int) (hs : ∀ i j, i ≤ j → j < d.size → d[i]! ≤ d[j]!) : ∀ m, m ≤ d.size → (compactUpTo d m).Pairwise (· < ·)
  | 0, _ => by simp [compactUpTo]
  | m + 1, hm => by
    rw [compactUpTo_succ]
    refine List.pairwise_append.2 ⟨compact_rise d hs m (by omega), ?_, ?_⟩
    · split <;> simp
    · intro a ha b hb
      split at hb
      · rename_i hk
        obtain rfl : b = d[m]! := by simpa using hb
        obtain ⟨j, hj, rfl⟩ := (compact_mem d m a).1 ha
        have h0 : m ≠ 0 := by omega
        have hne : d[m]! ≠ d[m - 1]! := by
          have : m = 0 ∨ d[m]! ≠ d[m - 1]! := by simpa [keeps] using hk
          exact this.resolve_left h0
        have h1 := hs j (m - 1) (by omega) (by omega)
        have h2 := hs (m - 1) m (by omega) (by omega)
        omega
      · cases hb
theorem runs_sorted (es : List Ev) : IsRuns es (compactUpTo ((es.map Ev.run).mergeSort fun x y => decide (x ≤ y)).toArray ((es.map Ev.run).mergeSort fun x y => decide (x ≤ y)).toArray.size) := by
  generalize hz : (es.map Ev.run).mergeSort (fun x y => decide (x ≤ y)) = zs
  have hp : zs.Perm (es.map Ev.run) := by rw [← hz]; exact List.mergeSort_perm _ _
  have hso : zs.Pairwise (fun x y => x ≤ y) := by
    have := List.pairwise_mergeSort (le := fun x y : Int => decide (x ≤ y)) (fun a b c h1 h2 => by simp only [decide_eq_true_eq] at *; omega) (fun a b => by simp only [Bool.or_eq_true, decide_eq_true_eq]; omega) (es.map Ev.run)
    rw [hz] at this
    exact this.imp (fun h => by simpa using h)
  have hs : ∀ i j, i ≤ j → j < zs.toArray.size → zs.toArray[i]! ≤ zs.toArray[j]! := by
    intro i j hij hj
    have hj' : j < zs.length := by simpa using hj
    have hi' : i < zs.length := by omega
    rw [getElem!_pos zs.toArray i (by simpa using hi'), getElem!_pos zs.toArray j hj]
    rcases Nat.lt_or_ge i j with h | h
    · simpa using List.pairwise_iff_getElem.1 hso i j hi' hj' h
    · obtain rfl : i = j := by omega
      exact Int.le_refl _
  refine ⟨compact_rise _ hs _ (Nat.le_refl _), ?_, fun r => ?_⟩
  · have hl := hp.length_eq
    unfold compactUpTo
    rw [List.length_map]
    refine Nat.le_trans (List.length_filter_le _ _) ?_
    rw [List.length_range]
    simp at hl ⊢
    omega
  rw [compact_mem]
  constructor
  · rintro ⟨j, hj, h⟩
    have hj' : j < zs.length := by simpa using hj
    have hm : r ∈ zs := by
      rw [getElem!_pos zs.toArray j hj] at h
      rw [← h]
      simp
    obtain ⟨e, he, h2⟩ := List.mem_map.1 (hp.mem_iff.1 hm)
    exact ⟨e, he, h2⟩
  · rintro ⟨e, he, rfl⟩
    have hm : e.run ∈ zs := hp.mem_iff.2 (List.mem_map.2 ⟨e, he, rfl⟩)
    obtain ⟨j, hj, h⟩ := List.mem_iff_getElem.1 hm
    exact ⟨j, by simpa using hj, by rw [getElem!_pos zs.toArray j (by simpa using hj)]; simpa using h⟩
end

/-- A run put among others that rise. -/
def putR (rs : List Int) (k : Nat) (r : Int) : List Int := rs.take k ++ r :: rs.drop k
theorem IsRuns.there {es : List Ev} {e : Ev} {rs : List Int} (h : IsRuns es rs) (hm : e.run ∈ rs) : IsRuns (es ++ [e]) rs :=
  ⟨h.rise, by have := h.len; simp; omega, fun r => by
    rw [h.mem]
    constructor
    · rintro ⟨x, hx, rfl⟩; exact ⟨x, by simp [hx], rfl⟩
    · rintro ⟨x, hx, rfl⟩
      rcases List.mem_append.1 hx with hx | hx
      · exact ⟨x, hx, rfl⟩
      · obtain rfl : x = e := by simpa using hx
        exact (h.mem _).1 hm⟩
theorem IsRuns.put {es : List Ev} {e : Ev} {rs : List Int} {k : Nat} (h : IsRuns es rs) (h1 : ∀ i, (hi : i < rs.length) → i < k → rs[i] < e.run) (h2 : ∀ i, (hi : i < rs.length) → k ≤ i → e.run < rs[i]) : IsRuns (es ++ [e]) (putR rs k e.run) := by
  refine ⟨?_, ?_, fun r => ?_⟩
  rotate_left
  · have := h.len
    unfold putR
    simp
    omega
  rotate_left
  · unfold putR
    refine List.pairwise_append.2 ⟨h.rise.sublist (List.take_sublist _ _), List.pairwise_cons.2 ⟨fun b hb => ?_, h.rise.sublist (List.drop_sublist _ _)⟩, fun a ha b hb => ?_⟩
    · obtain ⟨i, hi, rfl⟩ := List.mem_iff_getElem.1 hb
      rw [List.getElem_drop]
      exact h2 _ _ (by omega)
    · obtain ⟨i, hi, rfl⟩ := List.mem_iff_getElem.1 ha
      have hi2 : i < k ∧ i < rs.length := by have q := hi; rw [List.length_take] at q; omega
      rw [List.getElem_take]
      have q1 := h1 i hi2.2 hi2.1
      rcases List.mem_cons.1 hb with rfl | hb
      · exact q1
      · obtain ⟨j, hj, rfl⟩ := List.mem_iff_getElem.1 hb
        rw [List.getElem_drop]
        have q2 := h2 (k + j) (by simp at hj; omega) (by omega)
        omega
  · unfold putR
    rw [List.mem_append, List.mem_cons]
    have hd : r ∈ rs ↔ r ∈ rs.take k ∨ r ∈ rs.drop k := by rw [← List.mem_append, List.take_append_drop]
    constructor
    · rintro (hr | rfl | hr)
      · obtain ⟨x, hx, rfl⟩ := (h.mem _).1 (hd.2 (.inl hr)); exact ⟨x, by simp [hx], rfl⟩
      · exact ⟨e, by simp, rfl⟩
      · obtain ⟨x, hx, rfl⟩ := (h.mem _).1 (hd.2 (.inr hr)); exact ⟨x, by simp [hx], rfl⟩
    · rintro ⟨x, hx, rfl⟩
      rcases List.mem_append.1 hx with hx | hx
      · rcases hd.1 ((h.mem _).2 ⟨x, hx, rfl⟩) with q | q
        · exact .inl q
        · exact .inr (.inr q)
      · obtain rfl : x = e := by simpa using hx
        exact .inr (.inl rfl)
/-- A slice of numbers: empty, or a row somewhere. -/
def IntSl (w : World) (v : Value) (rs : List Int) : Prop :=
  (∃ a c, v = .slice a 0 c ∧ rs = []) ∨ ∃ g o c, v = .slice (some ⟨g, o, none⟩) rs.length c ∧ g < w.heap.size ∧ ∀ i, (h : i < rs.length) → w.cell? ⟨g, o + i, none⟩ = some (.int .i64 rs[i])
theorem IntSl.stay {w w' : World} {v : Value} {rs : List Int} (h : IntSl w v rs) (hb : Below w.heap.size w w') : IntSl w' v rs := by
  rcases h with h | ⟨g, o, c, hv, hg, h⟩
  · exact .inl h
  · exact .inr ⟨g, o, c, hv, Nat.lt_of_lt_of_le hg hb.size, fun i hi => (hb.cell (p := ⟨g, o + i, none⟩) hg).trans (h i hi)⟩
theorem IntSl.form {w : World} {v : Value} {rs : List Int} (h : IntSl w v rs) : ∃ a c, v = .slice a rs.length c := by
  rcases h with ⟨a, c, hv, rfl⟩ | ⟨g, o, c, hv, _⟩
  · exact ⟨a, c, hv⟩
  · exact ⟨_, c, hv⟩
theorem IntSl.row {w : World} {a : Option Addr} {n c : Nat} {rs : List Int} (h : IntSl w (.slice a n c) rs) (h0 : 0 < rs.length) : ∃ g o, a = some ⟨g, o, none⟩ ∧ g < w.heap.size ∧ ∀ i, (h : i < rs.length) → w.cell? ⟨g, o + i, none⟩ = some (.int .i64 rs[i]) := by
  rcases h with ⟨_, _, _, rfl⟩ | ⟨g, o, c', hv, hg, h⟩
  · simp at h0
  · cases hv; exact ⟨g, o, rfl, hg, h⟩
/-- Seqs that rise. -/
def RiseP (es : List Ev) : Prop := ∀ i, (h : i + 1 < es.length) → es[i].seq < es[i + 1].seq
end Go.Proofs.YtadidjhcgmeadaaGreatDoor
