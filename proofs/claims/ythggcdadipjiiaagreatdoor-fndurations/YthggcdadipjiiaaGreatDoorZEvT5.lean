/-
  Texts put together: EvT, StMath, OwnB, ApCe, SpPut.
-/
import Derived.Test.YthggcdadipjiiaaGreatDoorZNm4
import Derived.Test.YthggcdadipjiiaaGreatDoorZStrs3
import Derived.Laws.AppendOwnNone
import Derived.Lib.QuietBelow
import Derived.Maps.AppendAt
/-
  What impl.isTime, spec.l02Is and spec.l02Time answer: contracts over the seat's program.
-/
namespace Go.Proofs.YthggcdadipjiiaaGreatDoor
open Go.RowKit

theorem rng_yes {a b n : Int} (h1 : a ≤ n) (h2 : n ≤ b) : (decide (a ≤ n) && decide (n ≤ b)) = true := by simp [h1, h2]
theorem rng_no {a b n : Int} (h : ¬ (a ≤ n ∧ n ≤ b)) : (decide (a ≤ n) && decide (n ≤ b)) = false := by
  rw [Bool.and_eq_false_iff]; simp; omega
theorem rng_walk {P : Program} {f : FuncId} {args : Array Value} {a b n : Int}
    (c1 : a ≤ n → n ≤ b → ∀ w, Calls P f args w fun e w' => e = .returned (.bool true) ∧ w' = w) (c2 : a ≤ n → decide (n ≤ b) = false → ∀ w, Calls P f args w fun e w' => e = .returned (.bool false) ∧ w' = w)
    (c3 : n < a → ∀ w, Calls P f args w fun e w' => e = .returned (.bool false) ∧ w' = w) (w : World) : Calls P f args w fun e w' => e = .returned (.bool (decide (a ≤ n) && decide (n ≤ b))) ∧ w' = w := by
  by_cases h1 : a ≤ n
  · by_cases h2 : n ≤ b
    · rw [rng_yes h1 h2]; exact c1 h1 h2 w
    · rw [rng_no (fun h => h2 h.2)]; exact c2 h1 (by simpa using h2) w
  · rw [rng_no (fun h => h1 h.1)]; exact c3 (by omega) w

theorem isTime_any (n : Int) (w : World) :
    Calls Tryz.prog 151 #[.int .i64 n] w fun e w' => e = .returned (.bool (timB n)) ∧ w' = w := by
  refine rng_walk (fun h1 h2 w => ?_) (fun h1 h2 w => ?_) (fun h1 w => ?_) w
  all_goals
    go_enter Tryz.func151, Tryz.ntmps151
    go_wp2
    go_ret
    exact ⟨rfl, rfl⟩
theorem l02Is_any (n a b : Int) (w : World) :
    Calls Tryz.prog 81 #[.int .i64 n, .int .i64 a, .int .i64 b] w fun e w' => e = .returned (.bool (decide (a ≤ n) && decide (n ≤ b))) ∧ w' = w := by
  refine rng_walk (fun h1 h2 w => ?_) (fun h1 h2 w => ?_) (fun h1 w => ?_) w
  all_goals
    go_enter Tryz.func81, Tryz.ntmps81
    go_wp2
    go_ret
    exact ⟨rfl, rfl⟩
theorem l02Time_any (n : Int) (w : World) :
    Calls Tryz.prog 82 #[.int .i64 n] w fun e w' => e = .returned (.bool (timB n)) ∧ w' = w := by
  have c1 := fun w => l02Is_any n 0 1000000 w
  change ∀ w, Calls Tryz.prog 81 _ w fun e w' => e = .returned (.bool (timB n)) ∧ w' = w at c1
  generalize timB n = B at *
  go_enter Tryz.func82, Tryz.ntmps82
  go_wp2_with (go_at_call 81; refine (c1 _).mono ?_; rintro e w1 ⟨rfl, rfl⟩)
  go_ret
  exact ⟨rfl, rfl⟩
end Go.Proofs.YthggcdadipjiiaaGreatDoor

/-
  What it is for a State to be right: plain mathematics of lists and texts. Of no function.
-/
namespace Go.Proofs.YthggcdadipjiiaaGreatDoor
open Go.RowKit

theorem less_irr : ∀ a : List UInt8, Op.bytesLess a a = false
  | [] => rfl
  | x :: a => by
    show (decide (x < x) || (x == x && Op.bytesLess a a)) = false
    rw [less_irr a]; simp
theorem less_asym : ∀ a b : List UInt8, Op.bytesLess a b = true → Op.bytesLess b a = false
  | [], [], h => by simp [Op.bytesLess] at h
  | [], _ :: _, _ => rfl
  | _ :: _, [], h => by simp [Op.bytesLess] at h
  | x :: a, y :: b, h => by
    simp only [Op.bytesLess, Bool.or_eq_true, decide_eq_true_eq, Bool.and_eq_true, beq_iff_eq] at h
    simp only [Op.bytesLess, Bool.or_eq_false_iff, decide_eq_false_iff_not, Bool.and_eq_false_iff, beq_eq_false_iff_ne]
    rcases h with h | ⟨rfl, h⟩
    · refine ⟨fun h' => ?_, .inl (fun e => ?_)⟩
      · exact absurd (UInt8.lt_trans h h') (UInt8.lt_irrefl _)
      · subst e; exact absurd h (UInt8.lt_irrefl _)
    · exact ⟨UInt8.lt_irrefl _, .inr (less_asym a b h)⟩
theorem less_tri : ∀ a b : List UInt8, Op.bytesLess a b = true ∨ a = b ∨ Op.bytesLess b a = true
  | [], [] => .inr (.inl rfl)
  | [], _ :: _ => .inl rfl
  | _ :: _, [] => .inr (.inr rfl)
  | x :: a, y :: b => by
    simp only [Op.bytesLess, Bool.or_eq_true, decide_eq_true_eq, Bool.and_eq_true, beq_iff_eq]
    rcases UInt8.lt_or_lt_of_ne (a := x) (b := y) |> fun f => (if h : x = y then Or.inl h else Or.inr (f h)) with h | h | h
    · subst h
      rcases less_tri a b with h | h | h
      · exact .inl (.inr ⟨rfl, h⟩)
      · exact .inr (.inl (by rw [h]))
      · exact .inr (.inr (.inr ⟨rfl, h⟩))
    · exact .inl (.inl h)
    · exact .inr (.inr (.inl h))
theorem toList_inj {a b : ByteArray} (h : a.toList = b.toList) : a = b := by
  rw [ByteArray.toList_eq, ByteArray.toList_eq] at h
  exact ByteArray.ext (Array.toList_inj.1 h)
/-- The order of texts: is a ahead of b? -/
def lt (a b : ByteArray) : Bool := Op.bytesLess a.toList b.toList
/-- A row of texts in their order. -/
def Sorted (l : List ByteArray) : Prop := ∀ i, (h : i + 1 < l.length) → lt l[i + 1] l[i] = false
structure MarksP (ss l : List ByteArray) : Prop where
  mem : ∀ i, (h : i < l.length) → l[i] ∈ ss
  sorted : Sorted l
structure VarsP (l : List Pr) : Prop where
  n : l.length ≤ 20
  nm : ∀ i, (h : i < l.length) → nrB l[i].fst = true ∧ l[i].snd.size ≤ 40
  rise : ∀ i, (h : i + 1 < l.length) → lt l[i].fst l[i + 1].fst = true
/-- A State, field by field. -/
structure St where
  status : Int
  begun : Int
  last : Int
  wait : List ByteArray
  busy : List ByteArray
  vars : List Pr
  faults : Int
structure BegP (ss : List ByteArray) (s : St) : Prop where
  t1 : timB s.begun = true
  t2 : timB s.last = true
  le : s.begun ≤ s.last
  m : s.wait.length + s.busy.length ≤ 40
  w : MarksP ss s.wait
  b : MarksP ss s.busy
  v : VarsP s.vars
  f : timB s.faults = true
structure NoneP (s : St) : Prop where
  w : s.wait.length = 0
  b : s.busy.length = 0
  b0 : s.begun = 0
  l0 : s.last = 0
  v0 : s.vars.length = 0
  f0 : s.faults = 0
structure GoneP (s : St) : Prop where
  w : s.wait.length = 0
  b : s.busy.length = 0
def StP (ss : List ByteArray) (s : St) : Prop := (s.status = 0 ∧ NoneP s) ∨ (s.status = 1 ∧ BegP ss s) ∨ (s.status = 2 ∧ GoneP s ∧ BegP ss s)
theorem stP_0 {ss : List ByteArray} {s : St} (h : s.status = 0) : StP ss s ↔ NoneP s := by
  unfold StP
  constructor
  · rintro (h' | h' | h')
    · exact h'.2
    · have := h'.1; omega
    · have := h'.1; omega
  · exact fun k => .inl ⟨h, k⟩
theorem stP_1 {ss : List ByteArray} {s : St} (h : s.status = 1) : StP ss s ↔ BegP ss s := by
  unfold StP
  constructor
  · rintro (h' | h' | h')
    · have := h'.1; omega
    · exact h'.2
    · have := h'.1; omega
  · exact fun k => .inr (.inl ⟨h, k⟩)
end Go.Proofs.YthggcdadipjiiaaGreatDoor

/-
  A row of one's own: it stays, its base may be lower, its forms. Of no function.
-/
namespace Go.Proofs.YthggcdadipjiiaaGreatDoor
open Go.RowKit

theorem Tryz.infoStr : (Tryz.prog.info? 9).map (fun i => (i.zero, i.size, i.bytes)) = some (some (.string ⟨#[]⟩), 1, 16) := by kernel_rfl
theorem ownB_stay {w w' : World} {base size n : Nat} {e : TypeId} {v : Value} {xs : List Value} (h : w.ownsRow base e size v n xs) (hb : Below w.heap.size w w') : w'.ownsRow base e size v n xs :=
  h.kept (grown_below (r := none) hb) (by cases v.ownBlock with
    | none => exact .inl rfl
    | some k => exact .inr (by simp))
theorem ownB_le {w : World} {base base' size n : Nat} {e : TypeId} {v : Value} {xs : List Value} (h : w.ownsRow base e size v n xs) (hb : base' ≤ base) : w.ownsRow base' e size v n xs :=
  ⟨h.1, h.2.imp id (fun ⟨g, cap, cur, a, b, c⟩ => ⟨g, cap, cur, a, Nat.le_trans hb b, c⟩)⟩
theorem ownB_form {w : World} {base size n : Nat} {e : TypeId} {v : Value} {xs : List Value} (h : w.ownsRow base e size v n xs) : ∃ a c, v = .slice a n c := by
  rcases h.2 with ⟨h0, rfl⟩ | ⟨g, cap, _, hv, _⟩
  · exact ⟨none, 0, h0⟩
  · exact ⟨_, cap, hv⟩
end Go.Proofs.YthggcdadipjiiaaGreatDoor

/-
  The cells of a slice that came in; append of none. Of no function.
-/
namespace Go.Proofs.YthggcdadipjiiaaGreatDoor
open Go.RowKit

theorem strs_one (l : List ByteArray) : ∀ u ∈ l.map Value.string, u.oneCell' = true := by
  intro u hu
  obtain ⟨s, _, rfl⟩ := List.mem_map.1 hu
  rfl
theorem run_append_own_nil {P : Program} {w : World} (base : Nat) (t ty e : TypeId) (i : TypeInfo) (size c : Nat) (ht : P.underlying t = some (.slice e)) (hi : P.info? e = some i)
    (v : Value) (n : Nat) (xs : List Value) (hown : w.ownsRow base e size v n xs) :
    (Builtin.append_ #[t, t] ty #[v, .slice none 0 c]).run P w = .ok v w := by
  rcases hown.2 with ⟨rfl, rfl⟩ | ⟨g, cap, cur, rfl, _, _, hnc, _⟩
  · simp [Builtin.append_, run_underlying ht, sizeOf, typeInfo, hi, Builtin.lenOf, Builtin.firstCells]
  · simp [Builtin.append_, run_underlying ht, sizeOf, typeInfo, hi, Builtin.lenOf, Builtin.firstCells, hnc, storeCells]
/-- The cells of a slice: news, one for each cell, at an address, or none at all. -/
def CellsSl (w : World) (v : Value) (size n : Nat) (news : List Value) : Prop :=
  news.length = n * size ∧ (∀ u ∈ news, u.oneCell' = true) ∧ ((∃ c, v = .slice none 0 c ∧ n = 0) ∨ ∃ ad c, v = .slice (some ad) n c ∧ ∀ j u, news[j]? = some u → w.cell? (ad.add j) = some u)
theorem StrSl.cellsSl {w : World} {v : Value} {ss : List ByteArray} (h : StrSl w v ss) : CellsSl w v 1 ss.length (ss.map Value.string) := by
  refine ⟨by simp, strs_one _, ?_⟩
  rcases h with ⟨a, c, rfl, rfl⟩ | ⟨g, o, c, rfl, _, h⟩
  · rcases a with _ | ad
    · exact .inl ⟨c, rfl, rfl⟩
    · exact .inr ⟨ad, c, rfl, fun j u hj => by simp at hj⟩
  · refine .inr ⟨⟨g, o, none⟩, c, rfl, fun j u hj => ?_⟩
    rw [Addr.add_lit]
    rw [List.getElem?_map] at hj
    obtain ⟨s, hs, rfl⟩ := Option.map_eq_some_iff.1 hj
    obtain ⟨hlt, rfl⟩ := List.getElem?_eq_some_iff.1 hs
    exact h.2 j hlt
theorem prs_one (l : List Pr) : ∀ u ∈ l.flatMap Pr.cells, u.oneCell' = true := by
  intro u hu
  obtain ⟨p, _, hp⟩ := List.mem_flatMap.1 hu
  simp [Pr.cells] at hp
  rcases hp with rfl | rfl <;> rfl
theorem PrsAt.cell {w : World} {g o : Nat} {ps : List Pr} (h : PrsAt w g o ps) (j : Nat) (u : Value) (hj : (ps.flatMap Pr.cells)[j]? = some u) : w.cell? ⟨g, o + j, none⟩ = some u := by
  have hl : j < ps.length * 2 := by
    obtain ⟨hlt, _⟩ := List.getElem?_eq_some_iff.1 hj
    rw [pflat_len] at hlt; exact hlt
  have hi : j / 2 < ps.length := by omega
  have e : j = j / 2 * 2 + j % 2 := by omega
  have hm : j % 2 < 2 := by omega
  have k := h.2 (j / 2) hi
  rw [e, pflat_at ps (j / 2) (j % 2) hi hm] at hj
  rw [e]
  rcases (show j % 2 = 0 ∨ j % 2 = 1 by omega) with e0 | e0
  · rw [e0] at hj ⊢
    simp [Pr.cells] at hj
    subst hj
    rw [← Nat.add_assoc]; exact k.c0
  · rw [e0] at hj ⊢
    simp [Pr.cells] at hj
    subst hj
    rw [← Nat.add_assoc]; exact k.c1
theorem PrSl.cellsSl {w : World} {v : Value} {ps : List Pr} (h : PrSl w v ps) : CellsSl w v 2 ps.length (ps.flatMap Pr.cells) := by
  refine ⟨pflat_len ps, prs_one _, ?_⟩
  rcases h with ⟨a, c, rfl, rfl⟩ | ⟨g, o, c, rfl, _, h⟩
  · rcases a with _ | ad
    · exact .inl ⟨c, rfl, rfl⟩
    · exact .inr ⟨ad, c, rfl, fun j u hj => by simp at hj⟩
  · refine .inr ⟨⟨g, o, none⟩, c, rfl, fun j u hj => ?_⟩
    rw [Addr.add_lit]
    exact h.cell j u hj
end Go.Proofs.YthggcdadipjiiaaGreatDoor

/-
  What spec.l03Put answers: a text put among others, in a new row: a contract over the seat's program.
-/
namespace Go.Proofs.YthggcdadipjiiaaGreatDoor
open Go.RowKit Go.Sort

/-- Is a no greater than b? -/
def leT (a b : ByteArray) : Bool := Op.bytesLess a.toList b.toList || a.toList == b.toList
/-- How many texts at the head are no greater than t. -/
def kI (l : List ByteArray) (t : ByteArray) : Nat := (l.takeWhile (leT · t)).length
def putT (l : List ByteArray) (t : ByteArray) : List ByteArray := l.take (kI l t) ++ [t] ++ l.drop (kI l t)
theorem kI_is {l : List ByteArray} {t : ByteArray} {k : Nat} (hk : k ≤ l.length) (h1 : ∀ j, j < k → (h : j < l.length) → leT l[j] t = true) (h2 : (h : k < l.length) → leT l[k] t = false) : kI l t = k := by
  unfold kI
  have e : l.takeWhile (leT · t) = l.take k := by
    conv => lhs; rw [← List.take_append_drop k l]
    rw [List.takeWhile_append_of_pos (fun a ha => by
      obtain ⟨j, hj, rfl⟩ := List.mem_take_iff_getElem.1 ha
      exact h1 j (by omega) (by omega))]
    by_cases hlt : k < l.length
    · rw [List.drop_eq_getElem_cons hlt, List.takeWhile_cons_of_neg (by rw [h2 hlt]; simp)]; simp
    · rw [List.drop_eq_nil_of_le (by omega)]; simp
  rw [e, List.length_take]; omega
theorem own_made (w : World) (T : TypeId) : (w.alloc (.cells #[] T)).ownsRow w.heap.size T 1 (.slice (some ⟨w.heap.size, 0, none⟩) 0 0) 0 [] :=
  ⟨rfl, .inr ⟨w.heap.size, 0, #[], rfl, Nat.le_refl _, by show (w.heap.push (Obj.cells #[] T))[w.heap.size]? = some _; simp, Nat.le_refl _, Nat.zero_le _, rfl, rfl⟩⟩
theorem strs_cells_from {w : World} {g o : Nat} {l : List ByteArray} (h : StrsAt w g o l) (k : Nat) : ∀ j u, ((l.drop k).map Value.string)[j]? = some u → w.cell? ((⟨g, o + k, none⟩ : Addr).add j) = some u := by
  intro j u hj
  rw [Addr.add_lit]
  rw [List.getElem?_map, List.getElem?_drop] at hj
  obtain ⟨s, hs, rfl⟩ := Option.map_eq_some_iff.1 hj
  obtain ⟨hlt, rfl⟩ := List.getElem?_eq_some_iff.1 hs
  rw [Nat.add_assoc]; exact h.2 (k + j) hlt
theorem strs_cells_to {w : World} {g o : Nat} {l : List ByteArray} (h : StrsAt w g o l) (k : Nat) : ∀ j u, ((l.take k).map Value.string)[j]? = some u → w.cell? ((⟨g, o, none⟩ : Addr).add j) = some u := by
  intro j u hj
  rw [Addr.add_lit]
  rw [List.getElem?_map] at hj
  obtain ⟨s, hs, rfl⟩ := Option.map_eq_some_iff.1 hj
  obtain ⟨hlt, rfl⟩ := List.getElem?_eq_some_iff.1 hs
  rw [List.getElem_take]; exact h.2 j (by rw [List.length_take] at hlt; omega)
set_option maxRecDepth 100000 in
set_option maxHeartbeats 2000000 in
theorem l03Put_row (g o c : Nat) (l : List ByteArray) (t : ByteArray) (w : World) (hE : StrsAt w g o l) (hc : l.length ≤ c) (hn : l.length ≤ 1048576) :
    Calls Tryz.prog 98 #[.slice (some ⟨g, o, none⟩) l.length c, .string t] w fun e w' => ∃ a k, e = .returned (.slice a (putT l t).length k) ∧ w'.ownsRow w.heap.size 9 1 (.slice a (putT l t).length k) (putT l t).length ((putT l t).map Value.string) ∧ Below w.heap.size w w' := by
  obtain ⟨i0, hi, hz0, hz1, hz2⟩ := info_parts Tryz.infoStr
  have HE := hid hE
  clear hE
  go_enter Tryz.func98, Tryz.ntmps98
  go_wp2
  go_loop [5] (fun i => ∃ k : Nat, k ≤ l.length ∧ i = .int .i64 k ∧ ∀ j, j < k → (h : j < l.length) → leT l[j] t = true) (fun i => l.length - (intOf i).toNat)
  case atStart => exact ⟨0, Nat.zero_le _, rfl, fun j hj => absurd hj (by omega)⟩
  case round =>
    obtain ⟨k, hk, rfl, hall⟩ := hrel
    have HA := hid hall
    clear hall
    have fin : k ≤ c := by omega
    by_cases hlt : k < l.length
    · have c0 := HE.out.2 k hlt
      by_cases hb : Op.bytesLess l[k].toList t.toList = true
      · have HO := hid (show ∀ j, j < k + 1 → (h : j < l.length) → leT l[j] t = true from fun j hj h => by
          by_cases e : j = k
          · subst e; unfold leT; rw [hb]; rfl
          · exact HA.out j (by omega) h)
        generalize l[k] = q at *
        go_wp2
        go_round
        case rel => exact ⟨k + 1, by omega, by go_num, HO.out⟩
        case measure => simp [intOf]; omega
      · have hb' : Op.bytesLess l[k].toList t.toList = false := by simpa using hb
        by_cases he : l[k] = t
        · have HO := hid (show ∀ j, j < k + 1 → (h : j < l.length) → leT l[j] t = true from fun j hj h => by
            by_cases e : j = k
            · subst e; unfold leT; rw [he]; simp
            · exact HA.out j (by omega) h)
          rw [he] at c0 hb'
          clear hb he
          go_wp2
          go_round
          case rel => exact ⟨k + 1, by omega, by go_num, HO.out⟩
          case measure => simp [intOf]; omega
        · have hne := str_ne he
          have HF := hid (show leT l[k] t = false by unfold leT; rw [hb', hne]; rfl)
          have hck : ¬ c = k := by omega
          clear hb he
          generalize hq : l[k] = q at c0 hb' hne
          clear hq
          have HK := hid (kI_is hk HA.out (fun _ => HF.out))
          have hown0 := own_made w 9
          obtain ⟨P1, hP1⟩ : ∃ P1 : List Value, P1 = (l.take k).map Value.string := ⟨_, rfl⟩
          obtain ⟨P3, hP3⟩ : ∃ P3 : List Value, P3 = (l.drop k).map Value.string := ⟨_, rfl⟩
          have L1 := hid (show P1.length = k * 1 by rw [hP1]; simp; omega)
          have L3 := hid (show P3.length = (l.length - k) * 1 by rw [hP3]; simp)
          have O1 := hid (show ∀ u ∈ P1, u.oneCell' = true by rw [hP1]; exact strs_one _)
          have O3 := hid (show ∀ u ∈ P3, u.oneCell' = true by rw [hP3]; exact strs_one _)
          have D1 := hid (fun W (hb : Below w.heap.size w W) => (show ∀ j u, P1[j]? = some u → W.cell? ⟨g, o + j, none⟩ = some u by rw [hP1]; intro j u h; have := strs_cells_to (HE.out.stay hb (Nat.le_refl _)) k j u h; rwa [Addr.add_lit] at this))
          have D3 := hid (fun W (hb : Below w.heap.size w W) => (show ∀ j u, P3[j]? = some u → W.cell? ⟨g, o + k + j, none⟩ = some u by rw [hP3]; intro j u h; have := strs_cells_from (HE.out.stay hb (Nat.le_refl _)) k j u h; rwa [Addr.add_lit] at this))
          have HP := hid (show P1 ++ Value.string t :: P3 = (putT l t).map Value.string by rw [hP1, hP3]; unfold putT; rw [HK.out]; simp)
          have HPL := hid (show k + 1 + (l.length - k) = (putT l t).length by unfold putT; rw [HK.out]; simp; omega)
          clear hP1 hP3
          go_wp2_with (first | (at_builtin; refine wpList_append_own _ rfl _ _ 23 rfl w.heap.size 9 i0 _ 1 16 Tryz.underlying23 hi hz0 hz1 hz2 rfl (by decide) _ _ _ rfl hown0 ⟨g, o, none⟩ k _ P1 rfl L1.out ?c1 O1.out ?c3 ?c4 (by simp) ?_) | fail)
          case c1 => exact D1.out _ ((Below.refl w.heap.size w).alloc (Nat.le_refl _) _)
          case c3 => unfold maxLen; omega
          case c4 => omega
          intro v1 w1 hown1 hg1 _
          have HB1 := hid (((Below.refl w.heap.size w).alloc (Nat.le_refl _) (.cells #[] 9)).grown hg1 (by simp) (fun j hj => (hown0.lt j hj).1))
          obtain ⟨a1, k1, rfl⟩ := ownB_form hown1
          have HO1 := hid hown1
          have hz1' := HB1.out.size
          clear hown0 hown1 hg1
          go_wp2_with (first | (at_builtin; refine wpList_append_own _ rfl _ _ 23 rfl w.heap.size 9 i0 _ 1 16 Tryz.underlying23 hi hz0 hz1 hz2 rfl (by decide) _ _ _ rfl (HO1.out.alloc _) ⟨w1.heap.size, 0, none⟩ 1 1 [.string t] rfl rfl ?c1 (strs_one [t]) ?c3 ?c4 (by simp; omega) ?_) | fail)
          case c1 => exact cell_one_new _ _ _
          case c3 => unfold maxLen; omega
          case c4 => omega
          intro v2 w2 hown2 hg2 _
          have HB2 := hid ((HB1.out.alloc hz1' (.cells #[.string t] 9)).grown hg2 (by simp; omega) (fun j hj => (HO1.out.lt j hj).1))
          obtain ⟨a2, k2, rfl⟩ := ownB_form hown2
          have HO2 := hid hown2
          have hz2' := HB2.out.size
          clear hown2 hg2 HO1 HB1
          go_wp2_with (first | (at_builtin; refine wpList_append_own _ rfl _ _ 23 rfl w.heap.size 9 i0 _ 1 16 Tryz.underlying23 hi hz0 hz1 hz2 rfl (by decide) _ _ _ rfl HO2.out ⟨g, o + k, none⟩ (l.length - k) _ P3 rfl L3.out ?c1 O3.out ?c3 ?c4 hz2' ?_) | fail)
          case c1 => intro j u h; rw [Addr.add_lit]; exact D3.out _ HB2.out j u h
          case c3 => unfold maxLen; omega
          case c4 => omega
          intro v3 w3 hown3 hg3 _
          have HB3 := hid (HB2.out.grown hg3 hz2' (fun j hj => (HO2.out.lt j hj).1))
          obtain ⟨a3, k3, rfl⟩ := ownB_form hown3
          rw [HPL.out, HP.out] at hown3
          have HO3 := hid hown3
          clear hown3 hg3 HO2 HB2
          go_wp2
          go_ret
          refine ⟨a3, k3, ?_, HO3.out, HB3.out⟩
          show Ending.returned (.slice a3 (k + 1 + (l.length - k)) k3) = _
          rw [HPL.out]
    · have HH := hid (show l.length ≤ k by omega)
      by_cases hck : c = k
      · subst hck
        have HK := hid (kI_is hk HA.out (fun h => absurd h (by have := HH.out; omega)))
        have hown0 := own_made w 9
        obtain ⟨P1, hP1⟩ : ∃ P1 : List Value, P1 = (l.take c).map Value.string := ⟨_, rfl⟩
        obtain ⟨P3, hP3⟩ : ∃ P3 : List Value, P3 = (l.drop c).map Value.string := ⟨_, rfl⟩
        have L1 := hid (show P1.length = c * 1 by rw [hP1]; simp; omega)
        have L3 := hid (show P3.length = 0 * 1 by rw [hP3, List.drop_eq_nil_of_le HH.out]; rfl)
        have O1 := hid (show ∀ u ∈ P1, u.oneCell' = true by rw [hP1]; exact strs_one _)
        have O3 := hid (show ∀ u ∈ P3, u.oneCell' = true by rw [hP3]; exact strs_one _)
        have D1 := hid (fun W (hb : Below w.heap.size w W) => (show ∀ j u, P1[j]? = some u → W.cell? ⟨g, o + j, none⟩ = some u by rw [hP1]; intro j u h; have := strs_cells_to (HE.out.stay hb (Nat.le_refl _)) c j u h; rwa [Addr.add_lit] at this))
        have D3 := hid (fun W (hb : Below w.heap.size w W) => (show ∀ j u, P3[j]? = some u → W.cell? ⟨g, o + j, none⟩ = some u by rw [hP3, List.drop_eq_nil_of_le HH.out]; intro j u hj; simp at hj))
        have D4 := hid (show ∀ (j : Nat) (u : Value), P3[j]? = some u → False by rw [hP3, List.drop_eq_nil_of_le HH.out]; intro j u hj; simp at hj)
        have HP := hid (show P1 ++ Value.string t :: P3 = (putT l t).map Value.string by rw [hP1, hP3]; unfold putT; rw [HK.out]; simp)
        have HPL := hid (show c + 1 = (putT l t).length by unfold putT; rw [HK.out]; simp; have := HH.out; omega)
        clear hP1 hP3
        go_wp2_with (first | (at_builtin; refine wpList_append_own _ rfl _ _ 23 rfl w.heap.size 9 i0 _ 1 16 Tryz.underlying23 hi hz0 hz1 hz2 rfl (by decide) _ _ _ rfl hown0 ⟨g, o, none⟩ c _ P1 rfl L1.out ?c1 O1.out ?c3 ?c4 (by simp) ?_) | fail)
        case c1 => exact D1.out _ ((Below.refl w.heap.size w).alloc (Nat.le_refl _) _)
        case c3 => unfold maxLen; omega
        case c4 => omega
        intro v1 w1 hown1 hg1 _
        have HB1 := hid (((Below.refl w.heap.size w).alloc (Nat.le_refl _) (.cells #[] 9)).grown hg1 (by simp) (fun j hj => (hown0.lt j hj).1))
        obtain ⟨a1, k1, rfl⟩ := ownB_form hown1
        have HO1 := hid hown1
        have hz1' := HB1.out.size
        clear hown0 hown1 hg1
        go_wp2_with (first | (at_builtin; refine wpList_append_own _ rfl _ _ 23 rfl w.heap.size 9 i0 _ 1 16 Tryz.underlying23 hi hz0 hz1 hz2 rfl (by decide) _ _ _ rfl (HO1.out.alloc _) ⟨w1.heap.size, 0, none⟩ 1 1 [.string t] rfl rfl ?c1 (strs_one [t]) ?c3 ?c4 (by simp; omega) ?_) | fail)
        case c1 => exact cell_one_new _ _ _
        case c3 => unfold maxLen; omega
        case c4 => omega
        intro v2 w2 hown2 hg2 _
        have HB2 := hid ((HB1.out.alloc hz1' (.cells #[.string t] 9)).grown hg2 (by simp; omega) (fun j hj => (HO1.out.lt j hj).1))
        obtain ⟨a2, k2, rfl⟩ := ownB_form hown2
        have HO2 := hid hown2
        have hz2' := HB2.out.size
        clear hown2 hg2 HO1 HB1
        go_wp2_with (first | (at_builtin; refine wpList_append_own _ rfl _ _ 23 rfl w.heap.size 9 i0 _ 1 16 Tryz.underlying23 hi hz0 hz1 hz2 rfl (by decide) _ _ _ rfl HO2.out _ 0 _ P3 rfl L3.out ?c1 O3.out ?c3 ?c4 hz2' ?_) | fail)
        case c1 => exact fun j u h => (D4.out j u h).elim
        case c3 => unfold maxLen; omega
        case c4 => omega
        intro v3 w3 hown3 hg3 _
        have HB3 := hid (HB2.out.grown hg3 hz2' (fun j hj => (HO2.out.lt j hj).1))
        obtain ⟨a3, k3, rfl⟩ := ownB_form hown3
        rw [HPL.out, HP.out] at hown3
        have HO3 := hid hown3
        clear hown3 hg3 HO2 HB2
        go_wp2
        go_ret
        refine ⟨a3, k3, ?_, HO3.out, HB3.out⟩
        show Ending.returned (.slice a3 (c + 1) k3) = _
        rw [HPL.out]
      · have hck2 : k < c := by omega
        have HK := hid (kI_is hk HA.out (fun h => absurd h (by have := HH.out; omega)))
        have hown0 := own_made w 9
        obtain ⟨P1, hP1⟩ : ∃ P1 : List Value, P1 = (l.take k).map Value.string := ⟨_, rfl⟩
        obtain ⟨P3, hP3⟩ : ∃ P3 : List Value, P3 = (l.drop k).map Value.string := ⟨_, rfl⟩
        have L1 := hid (show P1.length = k * 1 by rw [hP1]; simp; omega)
        have L3 := hid (show P3.length = (l.length - k) * 1 by rw [hP3]; simp)
        have O1 := hid (show ∀ u ∈ P1, u.oneCell' = true by rw [hP1]; exact strs_one _)
        have O3 := hid (show ∀ u ∈ P3, u.oneCell' = true by rw [hP3]; exact strs_one _)
        have D1 := hid (fun W (hb : Below w.heap.size w W) => (show ∀ j u, P1[j]? = some u → W.cell? ⟨g, o + j, none⟩ = some u by rw [hP1]; intro j u h; have := strs_cells_to (HE.out.stay hb (Nat.le_refl _)) k j u h; rwa [Addr.add_lit] at this))
        have D3 := hid (fun W (hb : Below w.heap.size w W) => (show ∀ j u, P3[j]? = some u → W.cell? ⟨g, o + k + j, none⟩ = some u by rw [hP3, List.drop_eq_nil_of_le HH.out]; intro j u hj; simp at hj))
        have HP := hid (show P1 ++ Value.string t :: P3 = (putT l t).map Value.string by rw [hP1, hP3]; unfold putT; rw [HK.out]; simp)
        have HPL := hid (show k + 1 + (l.length - k) = (putT l t).length by unfold putT; rw [HK.out]; simp; omega)
        clear hP1 hP3
        go_wp2_with (first | (at_builtin; refine wpList_append_own _ rfl _ _ 23 rfl w.heap.size 9 i0 _ 1 16 Tryz.underlying23 hi hz0 hz1 hz2 rfl (by decide) _ _ _ rfl hown0 ⟨g, o, none⟩ k _ P1 rfl L1.out ?c1 O1.out ?c3 ?c4 (by simp) ?_) | fail)
        case c1 => exact D1.out _ ((Below.refl w.heap.size w).alloc (Nat.le_refl _) _)
        case c3 => unfold maxLen; omega
        case c4 => omega
        intro v1 w1 hown1 hg1 _
        have HB1 := hid (((Below.refl w.heap.size w).alloc (Nat.le_refl _) (.cells #[] 9)).grown hg1 (by simp) (fun j hj => (hown0.lt j hj).1))
        obtain ⟨a1, k1, rfl⟩ := ownB_form hown1
        have HO1 := hid hown1
        have hz1' := HB1.out.size
        clear hown0 hown1 hg1
        go_wp2_with (first | (at_builtin; refine wpList_append_own _ rfl _ _ 23 rfl w.heap.size 9 i0 _ 1 16 Tryz.underlying23 hi hz0 hz1 hz2 rfl (by decide) _ _ _ rfl (HO1.out.alloc _) ⟨w1.heap.size, 0, none⟩ 1 1 [.string t] rfl rfl ?c1 (strs_one [t]) ?c3 ?c4 (by simp; omega) ?_) | fail)
        case c1 => exact cell_one_new _ _ _
        case c3 => unfold maxLen; omega
        case c4 => omega
        intro v2 w2 hown2 hg2 _
        have HB2 := hid ((HB1.out.alloc hz1' (.cells #[.string t] 9)).grown hg2 (by simp; omega) (fun j hj => (HO1.out.lt j hj).1))
        obtain ⟨a2, k2, rfl⟩ := ownB_form hown2
        have HO2 := hid hown2
        have hz2' := HB2.out.size
        clear hown2 hg2 HO1 HB1
        go_wp2_with (first | (at_builtin; refine wpList_append_own _ rfl _ _ 23 rfl w.heap.size 9 i0 _ 1 16 Tryz.underlying23 hi hz0 hz1 hz2 rfl (by decide) _ _ _ rfl HO2.out ⟨g, o + k, none⟩ (l.length - k) _ P3 rfl L3.out ?c1 O3.out ?c3 ?c4 hz2' ?_) | fail)
        case c1 => intro j u h; rw [Addr.add_lit]; exact D3.out _ HB2.out j u h
        case c3 => unfold maxLen; omega
        case c4 => omega
        intro v3 w3 hown3 hg3 _
        have HB3 := hid (HB2.out.grown hg3 hz2' (fun j hj => (HO2.out.lt j hj).1))
        obtain ⟨a3, k3, rfl⟩ := ownB_form hown3
        rw [HPL.out, HP.out] at hown3
        have HO3 := hid hown3
        clear hown3 hg3 HO2 HB2
        go_wp2
        go_ret
        refine ⟨a3, k3, ?_, HO3.out, HB3.out⟩
        show Ending.returned (.slice a3 (k + 1 + (l.length - k)) k3) = _
        rw [HPL.out]
end Go.Proofs.YthggcdadipjiiaaGreatDoor
