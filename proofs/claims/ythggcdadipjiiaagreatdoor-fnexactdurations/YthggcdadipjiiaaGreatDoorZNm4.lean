/-
  Texts put together: Nm, EvX, EvS, AggS.
-/
import Derived.Test.YthggcdadipjiiaaGreatDoorZAgg3
import Derived.BigQuiet
import Derived.Deep.QuietTactic
import Derived.DataReads
/-
  Names: what spec.NameRight, impl.NameRight, impl.isLetter and impl.isNameByte answer, for every text and byte: contracts over the seat's program.
-/
namespace Go.Proofs.YthggcdadipjiiaaGreatDoor
open Go.RowKit


def letC (c : Int) : Bool := decide (97 ≤ c) && decide (c ≤ 122)
def namC (c : Int) : Bool := letC c || (decide (48 ≤ c) && decide (c ≤ 57)) || c == 95
def okC (j : Nat) (c : Int) : Bool := letC c || (decide (j ≠ 0) && namC c)
def NR (s : ByteArray) : Prop := 1 ≤ s.size ∧ s.size ≤ 20 ∧ ∀ j, (h : j < s.size) → okC j (s[j].toNat : Int) = true
def nrB (s : ByteArray) : Bool := decide (1 ≤ s.size) && (decide (s.size ≤ 20) && decide (∀ j, (h : j < s.size) → okC j (s[j].toNat : Int) = true))
theorem nr_yes {s : ByteArray} (h1 : 1 ≤ s.size) (h2 : s.size ≤ 20) (h3 : ∀ j, (h : j < s.size) → okC j (s[j].toNat : Int) = true) : nrB s = true := by
  unfold nrB; simp [h1, h2]; exact h3
theorem nr_no {s : ByteArray} (h : ¬ (1 ≤ s.size ∧ s.size ≤ 20)) : nrB s = false := by
  unfold nrB
  by_cases a : 1 ≤ s.size
  · have b : ¬ s.size ≤ 20 := fun b => h ⟨a, b⟩
    simp [b]
  · simp [a]
theorem nr_at {s : ByteArray} {j : Nat} (hj : j < s.size) (h : okC j (s[j].toNat : Int) = false) : nrB s = false := by
  unfold nrB
  have : decide (∀ j, (h : j < s.size) → okC j (s[j].toNat : Int) = true) = false := by
    rw [decide_eq_false_iff_not]; intro f; rw [f j hj] at h; cases h
  rw [this]; simp

theorem letC_yes {c : Int} (h1 : 97 ≤ c) (h2 : c ≤ 122) : letC c = true := by simp [letC, h1, h2]
theorem letC_no {c : Int} (h : ¬ (97 ≤ c ∧ c ≤ 122)) : letC c = false := by
  unfold letC; rw [Bool.and_eq_false_iff]; simp; omega

theorem isLetter_any (c : Int) (w : World) :
    Calls Tryz.prog 128 #[.int .u8 c] w fun e w' => e = .returned (.bool (letC c)) ∧ w' = w := by
  by_cases h1 : 97 ≤ c
  · by_cases h2 : c ≤ 122
    · rw [letC_yes h1 h2]
      go_enter Tryz.func128, Tryz.ntmps128
      go_wp2
      go_ret
      exact ⟨rfl, rfl⟩
    · rw [letC_no (by omega)]
      go_enter Tryz.func128, Tryz.ntmps128
      go_wp2
      go_ret
      exact ⟨rfl, rfl⟩
  · rw [letC_no (by omega)]
    go_enter Tryz.func128, Tryz.ntmps128
    go_wp2
    go_ret
    exact ⟨rfl, rfl⟩

theorem namC_let {c : Int} (h : letC c = true) : namC c = true := by simp [namC, h]
theorem namC_dig {c : Int} (h1 : 48 ≤ c) (h2 : c ≤ 57) : namC c = true := by simp [namC, h1, h2]
theorem namC_und {c : Int} (h : c = 95) : namC c = true := by simp [namC, h]
theorem namC_no {c : Int} (h : letC c = false) (h1 : ¬ (48 ≤ c ∧ c ≤ 57)) (h2 : c ≠ 95) : namC c = false := by
  unfold namC; rw [h]; simp [h2]; omega

theorem isNameByte_any (c : Int) (w : World) :
    Calls Tryz.prog 129 #[.int .u8 c] w fun e w' => e = .returned (.bool (namC c)) ∧ w' = w := by
  cases hl : letC c with
  | true =>
    rw [namC_let hl]
    have hc : ∀ w, Calls Tryz.prog 128 #[.int .u8 c] w fun e w' => e = .returned (.bool true) ∧ w' = w := fun w => by have := isLetter_any c w; rwa [hl] at this
    clear hl
    go_enter Tryz.func129, Tryz.ntmps129
    go_wp2_with (go_at_call 128; refine (hc _).mono ?_; rintro e w' ⟨rfl, rfl⟩)
    go_ret
    exact ⟨rfl, rfl⟩
  | false =>
    have hc : ∀ w, Calls Tryz.prog 128 #[.int .u8 c] w fun e w' => e = .returned (.bool false) ∧ w' = w := fun w => by have := isLetter_any c w; rwa [hl] at this
    by_cases h1 : 48 ≤ c
    · by_cases h2 : c ≤ 57
      · rw [namC_dig h1 h2]
        clear hl
        go_enter Tryz.func129, Tryz.ntmps129
        go_wp2_with (go_at_call 128; refine (hc _).mono ?_; rintro e w' ⟨rfl, rfl⟩)
        go_ret
        exact ⟨rfl, rfl⟩
      · by_cases h3 : c = 95
        · rw [namC_und h3]
          clear hl
          subst h3
          go_enter Tryz.func129, Tryz.ntmps129
          go_wp2_with (go_at_call 128; refine (hc _).mono ?_; rintro e w' ⟨rfl, rfl⟩)
          go_ret
          exact ⟨rfl, rfl⟩
        · rw [namC_no hl (by omega) h3]
          have h4 : (c == 95) = false := by simp [h3]
          have h5 : decide (c ≤ 57) = false := by simp [h2]
          clear hl h3
          go_enter Tryz.func129, Tryz.ntmps129
          go_wp2_with (go_at_call 128; refine (hc _).mono ?_; rintro e w' ⟨rfl, rfl⟩)
          go_ret
          exact ⟨rfl, rfl⟩
    · rw [namC_no hl (by omega) (by omega)]
      have h4 : (c == 95) = false := by simp; omega
      clear hl
      go_enter Tryz.func129, Tryz.ntmps129
      go_wp2_with (go_at_call 128; refine (hc _).mono ?_; rintro e w' ⟨rfl, rfl⟩)
      go_ret
      exact ⟨rfl, rfl⟩

theorem okC_no0 {j : Nat} {c : Int} (h : letC c = false) (hj : j = 0) : okC j c = false := by simp [okC, h, hj]
theorem okC_no {j : Nat} {c : Int} (h : namC c = false) : okC j c = false := by
  have : letC c = false := by
    cases hl : letC c with
    | false => rfl
    | true => rw [namC_let hl] at h; cases h
  simp [okC, h, this]
theorem okC_let {j : Nat} {c : Int} (h : letC c = true) : okC j c = true := by simp [okC, h]
theorem okC_nam {j : Nat} {c : Int} (h : namC c = true) (hj : j ≠ 0) : okC j c = true := by simp [okC, h, hj]

theorem okC_step {s : ByteArray} {k : Nat} {hk : k < s.size} (ha : ∀ j, j < k → (h : j < s.size) → okC j (s[j].toNat : Int) = true) (ho : okC k (s[k].toNat : Int) = true) :
    ∀ j, j < k + 1 → (h : j < s.size) → okC j (s[j].toNat : Int) = true := by
  intro j hj h
  by_cases e : j = k
  · subst e; exact ho
  · exact ha j (by omega) h
theorem byteCases (c : Int) (k : Nat) :
    (okC k c = true ∧ 97 ≤ c ∧ c ≤ 122) ∨
    (okC k c = false ∧ ((k : Int) == 0) = true ∧ c < 97) ∨
    (okC k c = false ∧ ((k : Int) == 0) = true ∧ 97 ≤ c ∧ decide (c ≤ 122) = false) ∨
    (okC k c = true ∧ ((k : Int) == 0) = false ∧ c < 97 ∧ 48 ≤ c ∧ c ≤ 57) ∨
    (okC k c = true ∧ ((k : Int) == 0) = false ∧ c < 97 ∧ 48 ≤ c ∧ decide (c ≤ 57) = false ∧ (c != 95) = false) ∨
    (okC k c = false ∧ ((k : Int) == 0) = false ∧ c < 97 ∧ 48 ≤ c ∧ decide (c ≤ 57) = false ∧ (c != 95) = true) ∨
    (okC k c = false ∧ ((k : Int) == 0) = false ∧ c < 97 ∧ c < 48 ∧ (c != 95) = true) ∨
    (okC k c = false ∧ ((k : Int) == 0) = false ∧ 97 ≤ c ∧ decide (c ≤ 122) = false ∧ 48 ≤ c ∧ decide (c ≤ 57) = false ∧ (c != 95) = true) := by
  by_cases h : 97 ≤ c ∧ c ≤ 122
  · exact .inl ⟨okC_let (letC_yes h.1 h.2), h⟩
  · have hl := letC_no h
    refine .inr ?_
    by_cases hk : k = 0
    · have hk' : ((k : Int) == 0) = true := by simp [hk]
      by_cases h1 : c < 97
      · exact .inl ⟨okC_no0 hl hk, hk', h1⟩
      · exact .inr (.inl ⟨okC_no0 hl hk, hk', by omega, by simp; omega⟩)
    · have hk' : ((k : Int) == 0) = false := by simp [hk]
      refine .inr (.inr ?_)
      by_cases h1 : c < 97
      · by_cases h2 : 48 ≤ c
        · by_cases h3 : c ≤ 57
          · exact .inl ⟨okC_nam (namC_dig h2 h3) hk, hk', h1, h2, h3⟩
          · by_cases h4 : c = 95
            · exact .inr (.inl ⟨okC_nam (namC_und h4) hk, hk', h1, h2, by simp; omega, by simp [h4]⟩)
            · exact .inr (.inr (.inl ⟨okC_no (namC_no hl (by omega) h4), hk', h1, h2, by simp; omega, by simp [h4]⟩))
        · exact .inr (.inr (.inr (.inl ⟨okC_no (namC_no hl (by omega) (by omega)), hk', h1, by omega, by simp; omega⟩)))
      · exact .inr (.inr (.inr (.inr ⟨okC_no (namC_no hl (by omega) (by omega)), hk', by omega, by simp; omega, by omega, by simp; omega, by simp; omega⟩)))

set_option maxHeartbeats 400000 in
theorem specNameRight_any (s : ByteArray) (w : World) (hs : s.size ≤ maxLen) :
    Calls Tryz.prog 76 #[.string s] w fun e w' => e = .returned (.bool (nrB s)) ∧ w' = w := by
  unfold maxLen at hs
  by_cases h1 : 1 ≤ s.size
  · by_cases h2 : s.size ≤ 20
    · go_enter Tryz.func76, Tryz.ntmps76
      go_wp2
      go_loop [3] (fun i => ∃ k : Nat, k ≤ s.size ∧ i = .int .i64 k ∧ ∀ j, j < k → (h : j < s.size) → okC j (s[j].toNat : Int) = true) (fun i => s.size - (intOf i).toNat)
      case atStart => exact ⟨0, Nat.zero_le _, rfl, fun j hj => absurd hj (by omega)⟩
      case round =>
        obtain ⟨k, hk, rfl, hall⟩ := hrel
        have HA := hid hall
        clear hall
        by_cases hlt : k < s.size
        · have hE : ∀ b, okC k (s[k].toNat : Int) = b → Hid (okC k (s[k].toNat : Int) = b) := fun _ h => h
          rcases byteCases (s[k].toNat : Int) k with ⟨ho, c1, c2⟩ | ⟨ho, hk0, c1⟩ | ⟨ho, hk0, c1, c2⟩ | ⟨ho, hk1, c1, c2, c3⟩ | ⟨ho, hk1, c1, c2, c3, c4⟩ | ⟨ho, hk1, c1, c2, c3, c4⟩ | ⟨ho, hk1, c1, c2, c3⟩ | ⟨ho, hk1, c1, c2, c3, c4, c5⟩
          all_goals
            have HO := hE _ ho
            clear ho hE
            go_wp2
          all_goals
            first
            | (go_ret; exact ⟨ret_bool (nr_at hlt HO.out).symm, rfl⟩)
            | (go_round
               case rel => exact ⟨k + 1, by omega, by go_num, okC_step HA.out HO.out⟩
               case measure => simp [intOf]; omega)
        · go_wp2
          go_ret
          exact ⟨ret_bool (nr_yes h1 h2 (fun j hj => HA.out j (by omega) hj)).symm, rfl⟩
    · rw [nr_no (by omega)]
      go_enter Tryz.func76, Tryz.ntmps76
      go_wp2
      go_ret
      exact ⟨rfl, rfl⟩
  · rw [nr_no (by omega)]
    go_enter Tryz.func76, Tryz.ntmps76
    go_wp2
    go_ret
    exact ⟨rfl, rfl⟩

theorem nam_of_ok {j : Nat} {c : Int} (hj : j ≠ 0) : namC c = okC j c := by
  unfold okC
  cases hl : letC c with
  | true => simp [namC_let hl]
  | false => simp [hj]

theorem ok_first {s : ByteArray} {h0 : 0 < s.size} (hl : letC (s[0].toNat : Int) = true) : ∀ j, j < 1 → (h : j < s.size) → okC j (s[j].toNat : Int) = true := by
  intro j hj h
  obtain rfl : j = 0 := by omega
  exact okC_let hl

set_option maxHeartbeats 400000 in
theorem implNameRight_any (s : ByteArray) (w : World) (hs : s.size ≤ maxLen) :
    Calls Tryz.prog 101 #[.string s] w fun e w' => e = .returned (.bool (nrB s)) ∧ w' = w := by
  unfold maxLen at hs
  by_cases h1 : 1 ≤ s.size
  · by_cases h2 : s.size ≤ 20
    · cases hl : letC (s[0].toNat : Int) with
      | false =>
        rw [nr_at (show 0 < s.size by omega) (okC_no0 hl rfl)]
        have hc : ∀ w, Calls Tryz.prog 128 #[.int .u8 (s[0].toNat : Int)] w fun e w' => e = .returned (.bool false) ∧ w' = w := fun w => by have := isLetter_any (s[0].toNat : Int) w; rwa [hl] at this
        clear hl
        go_enter Tryz.func101, Tryz.ntmps101
        go_wp2_with (go_at_call 128; refine (hc _).mono ?_; rintro e w' ⟨rfl, rfl⟩)
        go_ret
        exact ⟨rfl, rfl⟩
      | true =>
        have hc : ∀ w, Calls Tryz.prog 128 #[.int .u8 (s[0].toNat : Int)] w fun e w' => e = .returned (.bool true) ∧ w' = w := fun w => by have := isLetter_any (s[0].toNat : Int) w; rwa [hl] at this
        have HL := hid hl
        clear hl
        go_enter Tryz.func101, Tryz.ntmps101
        go_wp2_with (go_at_call 128; refine (hc _).mono ?_; rintro e w' ⟨rfl, rfl⟩)
        clear hc
        go_loop [3] (fun i => ∃ k : Nat, 1 ≤ k ∧ k ≤ s.size ∧ i = .int .i64 k ∧ ∀ j, j < k → (h : j < s.size) → okC j (s[j].toNat : Int) = true) (fun i => s.size - (intOf i).toNat)
        case atStart => exact ⟨1, by omega, by omega, rfl, ok_first HL.out⟩
        case round =>
          obtain ⟨k, hk0, hk, rfl, hall⟩ := hrel
          have HA := hid hall
          clear hall
          by_cases hlt : k < s.size
          · have hc : ∀ w, Calls Tryz.prog 129 #[.int .u8 (s[k].toNat : Int)] w fun e w' => e = .returned (.bool (okC k (s[k].toNat : Int))) ∧ w' = w := fun w => by rw [← nam_of_ok (show k ≠ 0 by omega)]; exact isNameByte_any _ w
            cases ho : okC k (s[k].toNat : Int) with
            | false =>
              rw [ho] at hc
              have HO := hid ho
              clear ho
              go_wp2_with (go_at_call 129; refine (hc _).mono ?_; rintro e w' ⟨rfl, rfl⟩)
              go_ret
              exact ⟨ret_bool (nr_at hlt HO.out).symm, rfl⟩
            | true =>
              rw [ho] at hc
              have HO := hid ho
              clear ho
              go_wp2_with (go_at_call 129; refine (hc _).mono ?_; rintro e w' ⟨rfl, rfl⟩)
              go_round
              case rel => exact ⟨k + 1, by omega, by omega, by go_num, okC_step HA.out HO.out⟩
              case measure => simp [intOf]; omega
          · go_wp2
            go_ret
            exact ⟨ret_bool (nr_yes h1 h2 (fun j hj => HA.out j (by omega) hj)).symm, rfl⟩
    · rw [nr_no (by omega)]
      go_enter Tryz.func101, Tryz.ntmps101
      go_wp2
      go_ret
      exact ⟨rfl, rfl⟩
  · rw [nr_no (by omega)]
    go_enter Tryz.func101, Tryz.ntmps101
    go_wp2
    go_ret
    exact ⟨rfl, rfl⟩
end Go.Proofs.YthggcdadipjiiaaGreatDoor

/-
  An event, field by field, and what it is for one to be right. Of no function.
-/
namespace Go.Proofs.YthggcdadipjiiaaGreatDoor
open Go.RowKit

def numB (n : Int) : Bool := decide (1 ≤ n) && decide (n ≤ 1000000)
def timB (n : Int) : Bool := decide (0 ≤ n) && decide (n ≤ 1000000)
/-- An event, field by field. -/
structure Ev where
  seq : Int
  time : Int
  run : Int
  kind : Int
  step : ByteArray
  val : ByteArray
def kndB (k : Int) (s v : ByteArray) : Bool :=
  if k = 1 ∨ k = 6 then decide (s = ByteArray.empty) && decide (v = ByteArray.empty)
  else if k = 2 ∨ k = 3 ∨ k = 5 then nrB s && decide (v = ByteArray.empty)
  else if k = 4 then nrB s && decide (v.size ≤ 40) else false
def evB (e : Ev) : Bool := numB e.seq && (numB e.run && (timB e.time && kndB e.kind e.step e.val))
end Go.Proofs.YthggcdadipjiiaaGreatDoor

/-
  Rows of events in memory: what it is that a slice holds these events, and that it stays so. Of no function.
-/
namespace Go.Proofs.YthggcdadipjiiaaGreatDoor
open Go.RowKit

def Ev.cells (e : Ev) : List Value := [.int .i64 e.seq, .int .i64 e.time, .int .i64 e.run, .int .i64 e.kind, .string e.step, .string e.val]
/-- An event at a place. -/
structure EvAt (w : World) (g o : Nat) (e : Ev) : Prop where
  c0 : w.cell? ⟨g, o, none⟩ = some (.int .i64 e.seq)
  c1 : w.cell? ⟨g, o + 1, none⟩ = some (.int .i64 e.time)
  c2 : w.cell? ⟨g, o + 2, none⟩ = some (.int .i64 e.run)
  c3 : w.cell? ⟨g, o + 3, none⟩ = some (.int .i64 e.kind)
  c4 : w.cell? ⟨g, o + 4, none⟩ = some (.string e.step)
  c5 : w.cell? ⟨g, o + 5, none⟩ = some (.string e.val)
/-- A row of events, from a place on. -/
def EvsAt (w : World) (g o : Nat) (es : List Ev) : Prop := g < w.heap.size ∧ ∀ i, (h : i < es.length) → EvAt w g (o + i * 6) es[i]
/-- What a slice of events is: empty, or a row somewhere. -/
def EvSl (w : World) (v : Value) (es : List Ev) : Prop :=
  (∃ a c, v = .slice a 0 c ∧ es = []) ∨ ∃ g o c, v = .slice (some ⟨g, o, none⟩) es.length c ∧ 0 < es.length ∧ EvsAt w g o es

theorem EvAt.below {w w' : World} {B g o : Nat} {e : Ev} (h : EvAt w g o e) (hb : Below B w w') (hg : g < B) : EvAt w' g o e :=
  ⟨by rw [hb.cell (p := ⟨g, o, none⟩) hg]; exact h.c0, by rw [hb.cell (p := ⟨g, o + 1, none⟩) hg]; exact h.c1, by rw [hb.cell (p := ⟨g, o + 2, none⟩) hg]; exact h.c2,
   by rw [hb.cell (p := ⟨g, o + 3, none⟩) hg]; exact h.c3, by rw [hb.cell (p := ⟨g, o + 4, none⟩) hg]; exact h.c4, by rw [hb.cell (p := ⟨g, o + 5, none⟩) hg]; exact h.c5⟩
theorem EvsAt.below {w w' : World} {B g o : Nat} {es : List Ev} (h : EvsAt w g o es) (hb : Below B w w') (hg : g < B) : EvsAt w' g o es :=
  ⟨Nat.lt_of_lt_of_le h.1 hb.size, fun i hi => (h.2 i hi).below hb hg⟩
theorem EvsAt.stay {w w' : World} {B g o : Nat} {es : List Ev} (h : EvsAt w g o es) (hb : Below B w w') (hB : w.heap.size ≤ B) : EvsAt w' g o es := h.below hb (Nat.lt_of_lt_of_le h.1 hB)
theorem EvSl.stay {w w' : World} {B : Nat} {v : Value} {es : List Ev} (h : EvSl w v es) (hb : Below B w w') (hB : w.heap.size ≤ B) : EvSl w' v es := by
  rcases h with h | ⟨g, o, c, hv, hn, h⟩
  · exact .inl h
  · exact .inr ⟨g, o, c, hv, hn, h.stay hb hB⟩

theorem flat_at : ∀ (es : List Ev) (i j : Nat), (h : i < es.length) → j < 6 → (es.flatMap Ev.cells)[i * 6 + j]? = es[i].cells[j]?
  | [], i, _, h, _ => absurd h (by simp)
  | e :: r, 0, j, _, hj => by
    rw [List.flatMap_cons, List.getElem?_append_left (by simpa [Ev.cells] using hj)]
    simp
  | e :: r, i + 1, j, h, hj => by
    have hi : i < r.length := by simpa using h
    have h6 : e.cells.length = 6 := rfl
    rw [List.flatMap_cons, List.getElem?_append_right (by omega), h6, show (i + 1) * 6 + j - 6 = i * 6 + j by omega, flat_at r i j hi hj]
    simp
theorem flat_len (es : List Ev) : (es.flatMap Ev.cells).length = es.length * 6 := by
  induction es with
  | nil => rfl
  | cons e r ih => rw [List.flatMap_cons, List.length_append, ih]; simp [Ev.cells]; omega

theorem at_of_cells {w : World} {g : Nat} {es : List Ev} (hc : ∀ j u, (es.flatMap Ev.cells)[j]? = some u → w.cell? ((⟨g, 0, none⟩ : Addr).add j) = some u) (i : Nat) (h : i < es.length) : EvAt w g (0 + i * 6) es[i] := by
  have key : ∀ j u, j < 6 → es[i].cells[j]? = some u → w.cell? ⟨g, 0 + i * 6 + j, none⟩ = some u := by
    intro j u hj hu
    have := hc (i * 6 + j) u (by rw [flat_at es i j h hj]; exact hu)
    rw [Addr.add_lit] at this
    rwa [Nat.add_assoc]
  exact ⟨key 0 _ (by decide) rfl, key 1 _ (by decide) rfl, key 2 _ (by decide) rfl, key 3 _ (by decide) rfl, key 4 _ (by decide) rfl, key 5 _ (by decide) rfl⟩
/-- A row that a call owns, of events. -/
theorem sl_of_own {w : World} {base n : Nat} {e : TypeId} {v : Value} {es : List Ev} (h : w.ownsRow base e 6 v n (es.flatMap Ev.cells)) : EvSl w v es := by
  have hn : n = es.length := by have := h.1; rw [flat_len] at this; omega
  subst hn
  rcases h.2 with ⟨hv, h0⟩ | ⟨g, cap, cur, hv, _⟩
  · exact .inl ⟨none, 0, hv, List.eq_nil_of_length_eq_zero h0⟩
  · by_cases h0 : es.length = 0
    · exact .inl ⟨some ⟨g, 0, none⟩, cap, by rw [hv, h0], List.eq_nil_of_length_eq_zero h0⟩
    · have hlt := (h.lt g (by rw [hv]; rfl)).2
      exact .inr ⟨g, 0, cap, hv, by omega, hlt, fun i hi => at_of_cells (h.cells (by rw [hv]; rfl)) i hi⟩
/-- The texts of these events can be handed about. -/
def Fit (es : List Ev) : Prop := ∀ i, (h : i < es.length) → es[i].step.size ≤ maxLen ∧ es[i].val.size ≤ maxLen
end Go.Proofs.YthggcdadipjiiaaGreatDoor

/-
  A slice of events that came in as data: what it holds. Of no function: one law of reading.
-/
namespace Go.Proofs.YthggcdadipjiiaaGreatDoor
open Go.ChangeShapes Go.WideShapes Go.RowKit Go.Deep Go.WideElems

section
variable {H : Type} {enc : TypeId × Value → H} {P : Program} {w : World}

theorem evat_of_cells {a : Addr} {i : Nat} {ev : Ev} (h : w.cells? 0 (a.add (i * 6)) 6 = some ev.cells) (hs : a.spot = none) : EvAt w a.block (a.off + i * 6) ev := by
  obtain ⟨b, o, s⟩ := a
  simp at hs
  subst hs
  obtain ⟨_, _, hc⟩ := World.cells?_some h
  rw [Addr.add_lit] at hc
  have key : ∀ j, j < 6 → w.cell? ⟨b, o + i * 6 + j, none⟩ = ev.cells[j]? := fun j hj => by
    have := hc j hj
    rwa [Addr.add_lit] at this
  exact ⟨key 0 (by decide), key 1 (by decide), key 2 (by decide), key 3 (by decide), key 4 (by decide), key 5 (by decide)⟩

/-- A slice of structs of four int64 and two strings, read: its events. -/
theorem evs_value {t e : TypeId} {f0 f1 f2 f3 f4 f5 : Field} {a0 : Option Addr} {len cap : Nat} {D : DataW H} {p : List MemPlace} (hsl : P.underlying t = some (.slice e)) (ht : P.underlying e = some (.struct #[f0, f1, f2, f3, f4, f5])) (hone : oneCellFields P #[f0, f1, f2, f3, f4, f5] = true) (hC : P.cellsOf e = 6)
    (u0 : P.underlying f0.type = some (.int .i64)) (u1 : P.underlying f1.type = some (.int .i64)) (u2 : P.underlying f2.type = some (.int .i64)) (u3 : P.underlying f3.type = some (.int .i64)) (u4 : P.underlying f4.type = some .string) (u5 : P.underlying f5.type = some .string)
    (h : DataW.Trod enc P w 0 (fun _ => true) true t (.slice a0 len cap) D p) : ∃ es : List Ev, EvSl w (.slice a0 len cap) es ∧ Fit es ∧ es.length ≤ maxLen := by
  obtain ⟨fuel, hf⟩ := h
  rcases open_slice hsl hf with ⟨hcs, _⟩ | ⟨a, len', cap', m, n, D', Pl, hcs, _, hl, hm, hmm, _, hel⟩
  · simp [Value.cells] at hcs
    obtain ⟨rfl, rfl, rfl⟩ := hcs
    exact ⟨[], .inl ⟨none, 0, rfl, rfl⟩, fun i hi => absurd hi (by simp), Nat.zero_le _⟩
  · simp [Value.cells] at hcs
    obtain ⟨rfl, rfl, rfl⟩ := hcs
    simp only [if_true] at hmm
    subst hmm
    have hex : ∀ i, i < len → ∃ ev : Ev, w.cells? 0 (a.add (i * 6)) 6 = some ev.cells ∧ ev.step.size ≤ maxLen ∧ ev.val.size ≤ maxLen := by
      intro i hi
      obtain ⟨cs', h1, h2⟩ := hel i (by omega)
      rw [hC] at h1
      obtain ⟨x0, x1, x2, x3, s, v, rfl, _, _, _, _, hs, hv⟩ := ev_cells ht hone hC u0 u1 u2 u3 u4 u5 h2
      exact ⟨⟨x0, x1, x2, x3, s, v⟩, h1, hs, hv⟩
    obtain ⟨f, hfx⟩ : ∃ f : Nat → Ev, ∀ i, i < len → w.cells? 0 (a.add (i * 6)) 6 = some (f i).cells ∧ (f i).step.size ≤ maxLen ∧ (f i).val.size ≤ maxLen := by
      refine ⟨fun i => if hi : i < len then Classical.choose (hex i hi) else ⟨0, 0, 0, 0, ByteArray.empty, ByteArray.empty⟩, fun i hi => ?_⟩
      simp only [dif_pos hi]
      exact Classical.choose_spec (hex i hi)
    refine ⟨(List.range len).map f, ?_, ?_, by simp; omega⟩
    · by_cases h0 : len = 0
      · subst h0
        exact .inl ⟨some a, m, rfl, rfl⟩
      · have hc0 := (hfx 0 (by omega)).1
        have hspot : a.spot = none := by
          obtain ⟨_, _, hc⟩ := World.cells?_some hc0
          have := World.cell?_spot (hc 0 (by decide))
          simpa [Addr.add] using this
        have hblk : a.block < w.heap.size := by
          have := World.cells?_block hc0 (by decide)
          simpa [Addr.add] using this
        refine .inr ⟨a.block, a.off, m, ?_, by simp; omega, hblk, fun i hi => ?_⟩
        · obtain ⟨b, o, s⟩ := a
          simp at hspot
          subst hspot
          simp
        · have hi' : i < len := by simpa using hi
          simpa using evat_of_cells (hfx i hi').1 hspot
    · intro i hi
      have hi' : i < len := by simpa using hi
      simpa using (hfx i hi').2
end
end Go.Proofs.YthggcdadipjiiaaGreatDoor
