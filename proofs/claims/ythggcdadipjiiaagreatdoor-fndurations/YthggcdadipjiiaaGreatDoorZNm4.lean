/-
  Texts put together: Nm, EvX, EvS, RunM.
-/
import Derived.Test.YthggcdadipjiiaaGreatDoorZGen4
import Derived.BigQuiet
import Derived.Deep.QuietTactic
import Derived.Lib.SlicesCompact
/-
  Names: what spec.NameRight, impl.NameRight, impl.isLetter and impl.isNameByte answer, for every text and byte: contracts over the seat's program.
-/
namespace Go.Proofs.YthggcdadipjiiaaGreatDoor
open Go.RowKit


def letC (c : Int) : Bool := decide (97 ≤ c) && decide (c ≤ 122)
def namC (c : Int) : Bool := letC c || (decide (48 ≤ c) && decide (c ≤ 57)) || c == 95
def okC (j : Nat) (c : Int) : Bool := letC c || (decide (j ≠ 0) && namC c)
def NR (s : ByteArray) : Prop := 1 ≤ s.size ∧ s.size ≤ 20 ∧ ∀ j, (h : j < s.size) → okC j (s[j].toNat : Int) = true
def nrB (s : ByteArray) : Bool := decide (1 ≤ s.size) && (decide (s.size ≤ 20) && decide (∀ j, (h : j < s.size) → okC j (s[j].toNat : Int) = true))
theorem nr_yes {s : ByteArray} (h1 : 1 ≤ s.size) (h2 : s.size ≤ 20) (h3 : ∀ j, (h : j < s.size) → okC j (s[j].toNat : Int) = true) : nrB s = true := by
  unfold nrB; simp [h1, h2]; exact h3
theorem nr_no {s : ByteArray} (h : ¬ (1 ≤ s.size ∧ s.size ≤ 20)) : nrB s = false := by
  unfold nrB
  by_cases a : 1 ≤ s.size
  · have b : ¬ s.size ≤ 20 := fun b => h ⟨a, b⟩
    simp [b]
  · simp [a]
theorem nr_at {s : ByteArray} {j : Nat} (hj : j < s.size) (h : okC j (s[j].toNat : Int) = false) : nrB s = false := by
  unfold nrB
  have : decide (∀ j, (h : j < s.size) → okC j (s[j].toNat : Int) = true) = false := by
    rw [decide_eq_false_iff_not]; intro f; rw [f j hj] at h; cases h
  rw [this]; simp

theorem letC_yes {c : Int} (h1 : 97 ≤ c) (h2 : c ≤ 122) : letC c = true := by simp [letC, h1, h2]
theorem letC_no {c : Int} (h : ¬ (97 ≤ c ∧ c ≤ 122)) : letC c = false := by
  unfold letC; rw [Bool.and_eq_false_iff]; simp; omega

theorem isLetter_any (c : Int) (w : World) :
    Calls Tryz.prog 128 #[.int .u8 c] w fun e w' => e = .returned (.bool (letC c)) ∧ w' = w := by
  by_cases h1 : 97 ≤ c
  · by_cases h2 : c ≤ 122
    · rw [letC_yes h1 h2]
      go_enter Tryz.func128, Tryz.ntmps128
      go_wp2
      go_ret
      exact ⟨rfl, rfl⟩
    · rw [letC_no (by omega)]
      go_enter Tryz.func128, Tryz.ntmps128
      go_wp2
      go_ret
      exact ⟨rfl, rfl⟩
  · rw [letC_no (by omega)]
    go_enter Tryz.func128, Tryz.ntmps128
    go_wp2
    go_ret
    exact ⟨rfl, rfl⟩

theorem namC_let {c : Int} (h : letC c = true) : namC c = true := by simp [namC, h]
theorem namC_dig {c : Int} (h1 : 48 ≤ c) (h2 : c ≤ 57) : namC c = true := by simp [namC, h1, h2]
theorem namC_und {c : Int} (h : c = 95) : namC c = true := by simp [namC, h]
theorem namC_no {c : Int} (h : letC c = false) (h1 : ¬ (48 ≤ c ∧ c ≤ 57)) (h2 : c ≠ 95) : namC c = false := by
  unfold namC; rw [h]; simp [h2]; omega

theorem isNameByte_any (c : Int) (w : World) :
    Calls Tryz.prog 129 #[.int .u8 c] w fun e w' => e = .returned (.bool (namC c)) ∧ w' = w := by
  cases hl : letC c with
  | true =>
    rw [namC_let hl]
    have hc : ∀ w, Calls Tryz.prog 128 #[.int .u8 c] w fun e w' => e = .returned (.bool true) ∧ w' = w := fun w => by have := isLetter_any c w; rwa [hl] at this
    clear hl
    go_enter Tryz.func129, Tryz.ntmps129
    go_wp2_with (go_at_call 128; refine (hc _).mono ?_; rintro e w' ⟨rfl, rfl⟩)
    go_ret
    exact ⟨rfl, rfl⟩
  | false =>
    have hc : ∀ w, Calls Tryz.prog 128 #[.int .u8 c] w fun e w' => e = .returned (.bool false) ∧ w' = w := fun w => by have := isLetter_any c w; rwa [hl] at this
    by_cases h1 : 48 ≤ c
    · by_cases h2 : c ≤ 57
      · rw [namC_dig h1 h2]
        clear hl
        go_enter Tryz.func129, Tryz.ntmps129
        go_wp2_with (go_at_call 128; refine (hc _).mono ?_; rintro e w' ⟨rfl, rfl⟩)
        go_ret
        exact ⟨rfl, rfl⟩
      · by_cases h3 : c = 95
        · rw [namC_und h3]
          clear hl
          subst h3
          go_enter Tryz.func129, Tryz.ntmps129
          go_wp2_with (go_at_call 128; refine (hc _).mono ?_; rintro e w' ⟨rfl, rfl⟩)
          go_ret
          exact ⟨rfl, rfl⟩
        · rw [namC_no hl (by omega) h3]
          have h4 : (c == 95) = false := by simp [h3]
          have h5 : decide (c ≤ 57) = false := by simp [h2]
          clear hl h3
          go_enter Tryz.func129, Tryz.ntmps129
          go_wp2_with (go_at_call 128; refine (hc _).mono ?_; rintro e w' ⟨rfl, rfl⟩)
          go_ret
          exact ⟨rfl, rfl⟩
    · rw [namC_no hl (by omega) (by omega)]
      have h4 : (c == 95) = false := by simp; omega
      clear hl
      go_enter Tryz.func129, Tryz.ntmps129
      go_wp2_with (go_at_call 128; refine (hc _).mono ?_; rintro e w' ⟨rfl, rfl⟩)
      go_ret
      exact ⟨rfl, rfl⟩

theorem okC_no0 {j : Nat} {c : Int} (h : letC c = false) (hj : j = 0) : okC j c = false := by simp [okC, h, hj]
theorem okC_no {j : Nat} {c : Int} (h : namC c = false) : okC j c = false := by
  have : letC c = false := by
    cases hl : letC c with
    | false => rfl
    | true => rw [namC_let hl] at h; cases h
  simp [okC, h, this]
theorem okC_let {j : Nat} {c : Int} (h : letC c = true) : okC j c = true := by simp [okC, h]
theorem okC_nam {j : Nat} {c : Int} (h : namC c = true) (hj : j ≠ 0) : okC j c = true := by simp [okC, h, hj]

theorem okC_step {s : ByteArray} {k : Nat} {hk : k < s.size} (ha : ∀ j, j < k → (h : j < s.size) → okC j (s[j].toNat : Int) = true) (ho : okC k (s[k].toNat : Int) = true) :
    ∀ j, j < k + 1 → (h : j < s.size) → okC j (s[j].toNat : Int) = true := by
  intro j hj h
  by_cases e : j = k
  · subst e; exact ho
  · exact ha j (by omega) h
theorem byteCases (c : Int) (k : Nat) :
    (okC k c = true ∧ 97 ≤ c ∧ c ≤ 122) ∨
    (okC k c = false ∧ ((k : Int) == 0) = true ∧ c < 97) ∨
    (okC k c = false ∧ ((k : Int) == 0) = true ∧ 97 ≤ c ∧ decide (c ≤ 122) = false) ∨
    (okC k c = true ∧ ((k : Int) == 0) = false ∧ c < 97 ∧ 48 ≤ c ∧ c ≤ 57) ∨
    (okC k c = true ∧ ((k : Int) == 0) = false ∧ c < 97 ∧ 48 ≤ c ∧ decide (c ≤ 57) = false ∧ (c != 95) = false) ∨
    (okC k c = false ∧ ((k : Int) == 0) = false ∧ c < 97 ∧ 48 ≤ c ∧ decide (c ≤ 57) = false ∧ (c != 95) = true) ∨
    (okC k c = false ∧ ((k : Int) == 0) = false ∧ c < 97 ∧ c < 48 ∧ (c != 95) = true) ∨
    (okC k c = false ∧ ((k : Int) == 0) = false ∧ 97 ≤ c ∧ decide (c ≤ 122) = false ∧ 48 ≤ c ∧ decide (c ≤ 57) = false ∧ (c != 95) = true) := by
  by_cases h : 97 ≤ c ∧ c ≤ 122
  · exact .inl ⟨okC_let (letC_yes h.1 h.2), h⟩
  · have hl := letC_no h
    refine .inr ?_
    by_cases hk : k = 0
    · have hk' : ((k : Int) == 0) = true := by simp [hk]
      by_cases h1 : c < 97
      · exact .inl ⟨okC_no0 hl hk, hk', h1⟩
      · exact .inr (.inl ⟨okC_no0 hl hk, hk', by omega, by simp; omega⟩)
    · have hk' : ((k : Int) == 0) = false := by simp [hk]
      refine .inr (.inr ?_)
      by_cases h1 : c < 97
      · by_cases h2 : 48 ≤ c
        · by_cases h3 : c ≤ 57
          · exact .inl ⟨okC_nam (namC_dig h2 h3) hk, hk', h1, h2, h3⟩
          · by_cases h4 : c = 95
            · exact .inr (.inl ⟨okC_nam (namC_und h4) hk, hk', h1, h2, by simp; omega, by simp [h4]⟩)
            · exact .inr (.inr (.inl ⟨okC_no (namC_no hl (by omega) h4), hk', h1, h2, by simp; omega, by simp [h4]⟩))
        · exact .inr (.inr (.inr (.inl ⟨okC_no (namC_no hl (by omega) (by omega)), hk', h1, by omega, by simp; omega⟩)))
      · exact .inr (.inr (.inr (.inr ⟨okC_no (namC_no hl (by omega) (by omega)), hk', by omega, by simp; omega, by omega, by simp; omega, by simp; omega⟩)))

set_option maxHeartbeats 400000 in
theorem specNameRight_any (s : ByteArray) (w : World) (hs : s.size ≤ maxLen) :
    Calls Tryz.prog 76 #[.string s] w fun e w' => e = .returned (.bool (nrB s)) ∧ w' = w := by
  unfold maxLen at hs
  by_cases h1 : 1 ≤ s.size
  · by_cases h2 : s.size ≤ 20
    · go_enter Tryz.func76, Tryz.ntmps76
      go_wp2
      go_loop [3] (fun i => ∃ k : Nat, k ≤ s.size ∧ i = .int .i64 k ∧ ∀ j, j < k → (h : j < s.size) → okC j (s[j].toNat : Int) = true) (fun i => s.size - (intOf i).toNat)
      case atStart => exact ⟨0, Nat.zero_le _, rfl, fun j hj => absurd hj (by omega)⟩
      case round =>
        obtain ⟨k, hk, rfl, hall⟩ := hrel
        have HA := hid hall
        clear hall
        by_cases hlt : k < s.size
        · have hE : ∀ b, okC k (s[k].toNat : Int) = b → Hid (okC k (s[k].toNat : Int) = b) := fun _ h => h
          rcases byteCases (s[k].toNat : Int) k with ⟨ho, c1, c2⟩ | ⟨ho, hk0, c1⟩ | ⟨ho, hk0, c1, c2⟩ | ⟨ho, hk1, c1, c2, c3⟩ | ⟨ho, hk1, c1, c2, c3, c4⟩ | ⟨ho, hk1, c1, c2, c3, c4⟩ | ⟨ho, hk1, c1, c2, c3⟩ | ⟨ho, hk1, c1, c2, c3, c4, c5⟩
          all_goals
            have HO := hE _ ho
            clear ho hE
            go_wp2
          all_goals
            first
            | (go_ret; exact ⟨ret_bool (nr_at hlt HO.out).symm, rfl⟩)
            | (go_round
               case rel => exact ⟨k + 1, by omega, by go_num, okC_step HA.out HO.out⟩
               case measure => simp [intOf]; omega)
        · go_wp2
          go_ret
          exact ⟨ret_bool (nr_yes h1 h2 (fun j hj => HA.out j (by omega) hj)).symm, rfl⟩
    · rw [nr_no (by omega)]
      go_enter Tryz.func76, Tryz.ntmps76
      go_wp2
      go_ret
      exact ⟨rfl, rfl⟩
  · rw [nr_no (by omega)]
    go_enter Tryz.func76, Tryz.ntmps76
    go_wp2
    go_ret
    exact ⟨rfl, rfl⟩

theorem nam_of_ok {j : Nat} {c : Int} (hj : j ≠ 0) : namC c = okC j c := by
  unfold okC
  cases hl : letC c with
  | true => simp [namC_let hl]
  | false => simp [hj]

theorem ok_first {s : ByteArray} {h0 : 0 < s.size} (hl : letC (s[0].toNat : Int) = true) : ∀ j, j < 1 → (h : j < s.size) → okC j (s[j].toNat : Int) = true := by
  intro j hj h
  obtain rfl : j = 0 := by omega
  exact okC_let hl

set_option maxHeartbeats 400000 in
theorem implNameRight_any (s : ByteArray) (w : World) (hs : s.size ≤ maxLen) :
    Calls Tryz.prog 101 #[.string s] w fun e w' => e = .returned (.bool (nrB s)) ∧ w' = w := by
  unfold maxLen at hs
  by_cases h1 : 1 ≤ s.size
  · by_cases h2 : s.size ≤ 20
    · cases hl : letC (s[0].toNat : Int) with
      | false =>
        rw [nr_at (show 0 < s.size by omega) (okC_no0 hl rfl)]
        have hc : ∀ w, Calls Tryz.prog 128 #[.int .u8 (s[0].toNat : Int)] w fun e w' => e = .returned (.bool false) ∧ w' = w := fun w => by have := isLetter_any (s[0].toNat : Int) w; rwa [hl] at this
        clear hl
        go_enter Tryz.func101, Tryz.ntmps101
        go_wp2_with (go_at_call 128; refine (hc _).mono ?_; rintro e w' ⟨rfl, rfl⟩)
        go_ret
        exact ⟨rfl, rfl⟩
      | true =>
        have hc : ∀ w, Calls Tryz.prog 128 #[.int .u8 (s[0].toNat : Int)] w fun e w' => e = .returned (.bool true) ∧ w' = w := fun w => by have := isLetter_any (s[0].toNat : Int) w; rwa [hl] at this
        have HL := hid hl
        clear hl
        go_enter Tryz.func101, Tryz.ntmps101
        go_wp2_with (go_at_call 128; refine (hc _).mono ?_; rintro e w' ⟨rfl, rfl⟩)
        clear hc
        go_loop [3] (fun i => ∃ k : Nat, 1 ≤ k ∧ k ≤ s.size ∧ i = .int .i64 k ∧ ∀ j, j < k → (h : j < s.size) → okC j (s[j].toNat : Int) = true) (fun i => s.size - (intOf i).toNat)
        case atStart => exact ⟨1, by omega, by omega, rfl, ok_first HL.out⟩
        case round =>
          obtain ⟨k, hk0, hk, rfl, hall⟩ := hrel
          have HA := hid hall
          clear hall
          by_cases hlt : k < s.size
          · have hc : ∀ w, Calls Tryz.prog 129 #[.int .u8 (s[k].toNat : Int)] w fun e w' => e = .returned (.bool (okC k (s[k].toNat : Int))) ∧ w' = w := fun w => by rw [← nam_of_ok (show k ≠ 0 by omega)]; exact isNameByte_any _ w
            cases ho : okC k (s[k].toNat : Int) with
            | false =>
              rw [ho] at hc
              have HO := hid ho
              clear ho
              go_wp2_with (go_at_call 129; refine (hc _).mono ?_; rintro e w' ⟨rfl, rfl⟩)
              go_ret
              exact ⟨ret_bool (nr_at hlt HO.out).symm, rfl⟩
            | true =>
              rw [ho] at hc
              have HO := hid ho
              clear ho
              go_wp2_with (go_at_call 129; refine (hc _).mono ?_; rintro e w' ⟨rfl, rfl⟩)
              go_round
              case rel => exact ⟨k + 1, by omega, by omega, by go_num, okC_step HA.out HO.out⟩
              case measure => simp [intOf]; omega
          · go_wp2
            go_ret
            exact ⟨ret_bool (nr_yes h1 h2 (fun j hj => HA.out j (by omega) hj)).symm, rfl⟩
    · rw [nr_no (by omega)]
      go_enter Tryz.func101, Tryz.ntmps101
      go_wp2
      go_ret
      exact ⟨rfl, rfl⟩
  · rw [nr_no (by omega)]
    go_enter Tryz.func101, Tryz.ntmps101
    go_wp2
    go_ret
    exact ⟨rfl, rfl⟩
end Go.Proofs.YthggcdadipjiiaaGreatDoor

/-
  An event, field by field, and what it is for one to be right. Of no function.
-/
namespace Go.Proofs.YthggcdadipjiiaaGreatDoor
open Go.RowKit

def numB (n : Int) : Bool := decide (1 ≤ n) && decide (n ≤ 1000000)
def timB (n : Int) : Bool := decide (0 ≤ n) && decide (n ≤ 1000000)
/-- An event, field by field. -/
structure Ev where
  seq : Int
  time : Int
  run : Int
  kind : Int
  step : ByteArray
  val : ByteArray
def kndB (k : Int) (s v : ByteArray) : Bool :=
  if k = 1 ∨ k = 6 then decide (s = ByteArray.empty) && decide (v = ByteArray.empty)
  else if k = 2 ∨ k = 3 ∨ k = 5 then nrB s && decide (v = ByteArray.empty)
  else if k = 4 then nrB s && decide (v.size ≤ 40) else false
def evB (e : Ev) : Bool := numB e.seq && (numB e.run && (timB e.time && kndB e.kind e.step e.val))
end Go.Proofs.YthggcdadipjiiaaGreatDoor

/-
  Rows of events in memory: what it is that a slice holds these events, and that it stays so. Of no function.
-/
namespace Go.Proofs.YthggcdadipjiiaaGreatDoor
open Go.RowKit

def Ev.cells (e : Ev) : List Value := [.int .i64 e.seq, .int .i64 e.time, .int .i64 e.run, .int .i64 e.kind, .string e.step, .string e.val]
/-- An event at a place. -/
structure EvAt (w : World) (g o : Nat) (e : Ev) : Prop where
  c0 : w.cell? ⟨g, o, none⟩ = some (.int .i64 e.seq)
  c1 : w.cell? ⟨g, o + 1, none⟩ = some (.int .i64 e.time)
  c2 : w.cell? ⟨g, o + 2, none⟩ = some (.int .i64 e.run)
  c3 : w.cell? ⟨g, o + 3, none⟩ = some (.int .i64 e.kind)
  c4 : w.cell? ⟨g, o + 4, none⟩ = some (.string e.step)
  c5 : w.cell? ⟨g, o + 5, none⟩ = some (.string e.val)
/-- A row of events, from a place on. -/
def EvsAt (w : World) (g o : Nat) (es : List Ev) : Prop := g < w.heap.size ∧ ∀ i, (h : i < es.length) → EvAt w g (o + i * 6) es[i]
/-- What a slice of events is: empty, or a row somewhere. -/
def EvSl (w : World) (v : Value) (es : List Ev) : Prop :=
  (∃ a c, v = .slice a 0 c ∧ es = []) ∨ ∃ g o c, v = .slice (some ⟨g, o, none⟩) es.length c ∧ 0 < es.length ∧ EvsAt w g o es

theorem EvAt.below {w w' : World} {B g o : Nat} {e : Ev} (h : EvAt w g o e) (hb : Below B w w') (hg : g < B) : EvAt w' g o e :=
  ⟨by rw [hb.cell (p := ⟨g, o, none⟩) hg]; exact h.c0, by rw [hb.cell (p := ⟨g, o + 1, none⟩) hg]; exact h.c1, by rw [hb.cell (p := ⟨g, o + 2, none⟩) hg]; exact h.c2,
   by rw [hb.cell (p := ⟨g, o + 3, none⟩) hg]; exact h.c3, by rw [hb.cell (p := ⟨g, o + 4, none⟩) hg]; exact h.c4, by rw [hb.cell (p := ⟨g, o + 5, none⟩) hg]; exact h.c5⟩
theorem EvsAt.below {w w' : World} {B g o : Nat} {es : List Ev} (h : EvsAt w g o es) (hb : Below B w w') (hg : g < B) : EvsAt w' g o es :=
  ⟨Nat.lt_of_lt_of_le h.1 hb.size, fun i hi => (h.2 i hi).below hb hg⟩
theorem EvsAt.stay {w w' : World} {B g o : Nat} {es : List Ev} (h : EvsAt w g o es) (hb : Below B w w') (hB : w.heap.size ≤ B) : EvsAt w' g o es := h.below hb (Nat.lt_of_lt_of_le h.1 hB)
theorem EvSl.stay {w w' : World} {B : Nat} {v : Value} {es : List Ev} (h : EvSl w v es) (hb : Below B w w') (hB : w.heap.size ≤ B) : EvSl w' v es := by
  rcases h with h | ⟨g, o, c, hv, hn, h⟩
  · exact .inl h
  · exact .inr ⟨g, o, c, hv, hn, h.stay hb hB⟩

theorem flat_at : ∀ (es : List Ev) (i j : Nat), (h : i < es.length) → j < 6 → (es.flatMap Ev.cells)[i * 6 + j]? = es[i].cells[j]?
  | [], i, _, h, _ => absurd h (by simp)
  | e :: r, 0, j, _, hj => by
    rw [List.flatMap_cons, List.getElem?_append_left (by simpa [Ev.cells] using hj)]
    simp
  | e :: r, i + 1, j, h, hj => by
    have hi : i < r.length := by simpa using h
    have h6 : e.cells.length = 6 := rfl
    rw [List.flatMap_cons, List.getElem?_append_right (by omega), h6, show (i + 1) * 6 + j - 6 = i * 6 + j by omega, flat_at r i j hi hj]
    simp
theorem flat_len (es : List Ev) : (es.flatMap Ev.cells).length = es.length * 6 := by
  induction es with
  | nil => rfl
  | cons e r ih => rw [List.flatMap_cons, List.length_append, ih]; simp [Ev.cells]; omega

theorem at_of_cells {w : World} {g : Nat} {es : List Ev} (hc : ∀ j u, (es.flatMap Ev.cells)[j]? = some u → w.cell? ((⟨g, 0, none⟩ : Addr).add j) = some u) (i : Nat) (h : i < es.length) : EvAt w g (0 + i * 6) es[i] := by
  have key : ∀ j u, j < 6 → es[i].cells[j]? = some u → w.cell? ⟨g, 0 + i * 6 + j, none⟩ = some u := by
    intro j u hj hu
    have := hc (i * 6 + j) u (by rw [flat_at es i j h hj]; exact hu)
    rw [Addr.add_lit] at this
    rwa [Nat.add_assoc]
  exact ⟨key 0 _ (by decide) rfl, key 1 _ (by decide) rfl, key 2 _ (by decide) rfl, key 3 _ (by decide) rfl, key 4 _ (by decide) rfl, key 5 _ (by decide) rfl⟩
/-- A row that a call owns, of events. -/
theorem sl_of_own {w : World} {base n : Nat} {e : TypeId} {v : Value} {es : List Ev} (h : w.ownsRow base e 6 v n (es.flatMap Ev.cells)) : EvSl w v es := by
  have hn : n = es.length := by have := h.1; rw [flat_len] at this; omega
  subst hn
  rcases h.2 with ⟨hv, h0⟩ | ⟨g, cap, cur, hv, _⟩
  · exact .inl ⟨none, 0, hv, List.eq_nil_of_length_eq_zero h0⟩
  · by_cases h0 : es.length = 0
    · exact .inl ⟨some ⟨g, 0, none⟩, cap, by rw [hv, h0], List.eq_nil_of_length_eq_zero h0⟩
    · have hlt := (h.lt g (by rw [hv]; rfl)).2
      exact .inr ⟨g, 0, cap, hv, by omega, hlt, fun i hi => at_of_cells (h.cells (by rw [hv]; rfl)) i hi⟩
/-- The texts of these events can be handed about. -/
def Fit (es : List Ev) : Prop := ∀ i, (h : i < es.length) → es[i].step.size ≤ maxLen ∧ es[i].val.size ≤ maxLen
end Go.Proofs.YthggcdadipjiiaaGreatDoor

/-
  The runs of events, rising; a history that is right. Of no function.
-/
namespace Go.Proofs.YthggcdadipjiiaaGreatDoor
open Go.RowKit

/-- The runs of these events, rising. -/
structure IsRuns (es : List Ev) (rs : List Int) : Prop where
  rise : rs.Pairwise (· < ·)
  len : rs.length ≤ es.length
  mem : ∀ r, r ∈ rs ↔ ∃ e ∈ es, e.run = r
theorem isRuns_nil : IsRuns [] [] := ⟨List.Pairwise.nil, Nat.le_refl _, by simp⟩

section
open Go.Lib
theorem compact_mem (d : Array Int) : ∀ (m : Nat) (x : Int), x ∈ compactUpTo d m ↔ ∃ j, j < m ∧ d[j]! = x
  | 0, x => by simp [compactUpTo]
  | m + 1, x => by
    rw [compactUpTo_succ, List.mem_append, compact_mem d m x]
    constructor
    · rintro (⟨j, hj, h⟩ | h)
      · exact ⟨j, by omega, h⟩
      · split at h
        · exact ⟨m, by omega, by simpa using (List.mem_singleton.1 h).symm⟩
        · cases h
    · rintro ⟨j, hj, h⟩
      by_cases e : j = m
      · subst e
        by_cases hk : keeps d j = true
        · exact .inr (by rw [if_pos hk]; simp [h])
        · refine .inl ⟨j - 1, ?_, ?_⟩
          · have : j ≠ 0 := fun e => hk (by subst e; simp [keeps])
            omega
          · have : ¬ (j = 0 ∨ d[j]! ≠ d[j - 1]!) := by simpa [keeps] using hk
            rw [← h]
            exact (Classical.not_not.1 (fun q => this (.inr q))).symm
      · exact .inl ⟨j, by omega, h⟩
theorem compact_rise (d : Array Int) (hs : ∀ i j, i ≤ j → j < d.size → d[i]! ≤ d[j]!) : ∀ m, m ≤ d.size → (compactUpTo d m).Pairwise (· < ·)
  | 0, _ => by simp [compactUpTo]
  | m + 1, hm => by
    rw [compactUpTo_succ]
    refine List.pairwise_append.2 ⟨compact_rise d hs m (by omega), ?_, ?_⟩
    · split <;> simp
    · intro a ha b hb
      split at hb
      · rename_i hk
        obtain rfl : b = d[m]! := by simpa using hb
        obtain ⟨j, hj, rfl⟩ := (compact_mem d m a).1 ha
        have h0 : m ≠ 0 := by omega
        have hne : d[m]! ≠ d[m - 1]! := by
          have : m = 0 ∨ d[m]! ≠ d[m - 1]! := by simpa [keeps] using hk
          exact this.resolve_left h0
        have h1 := hs j (m - 1) (by omega) (by omega)
        have h2 := hs (m - 1) m (by omega) (by omega)
        omega
      · cases hb
theorem runs_sorted (es : List Ev) : IsRuns es (compactUpTo ((es.map Ev.run).mergeSort fun x y => decide (x ≤ y)).toArray ((es.map Ev.run).mergeSort fun x y => decide (x ≤ y)).toArray.size) := by
  generalize hz : (es.map Ev.run).mergeSort (fun x y => decide (x ≤ y)) = zs
  have hp : zs.Perm (es.map Ev.run) := by rw [← hz]; exact List.mergeSort_perm _ _
  have hso : zs.Pairwise (fun x y => x ≤ y) := by
    have := List.pairwise_mergeSort (le := fun x y : Int => decide (x ≤ y)) (fun a b c h1 h2 => by simp only [decide_eq_true_eq] at *; omega) (fun a b => by simp only [Bool.or_eq_true, decide_eq_true_eq]; omega) (es.map Ev.run)
    rw [hz] at this
    exact this.imp (fun h => by simpa using h)
  have hs : ∀ i j, i ≤ j → j < zs.toArray.size → zs.toArray[i]! ≤ zs.toArray[j]! := by
    intro i j hij hj
    have hj' : j < zs.length := by simpa using hj
    have hi' : i < zs.length := by omega
    rw [getElem!_pos zs.toArray i (by simpa using hi'), getElem!_pos zs.toArray j hj]
    rcases Nat.lt_or_ge i j with h | h
    · simpa using List.pairwise_iff_getElem.1 hso i j hi' hj' h
    · obtain rfl : i = j := by omega
      exact Int.le_refl _
  refine ⟨compact_rise _ hs _ (Nat.le_refl _), ?_, fun r => ?_⟩
  · have hl := hp.length_eq
    unfold compactUpTo
    rw [List.length_map]
    refine Nat.le_trans (List.length_filter_le _ _) ?_
    rw [List.length_range]
    simp at hl ⊢
    omega
  rw [compact_mem]
  constructor
  · rintro ⟨j, hj, h⟩
    have hj' : j < zs.length := by simpa using hj
    have hm : r ∈ zs := by
      rw [getElem!_pos zs.toArray j hj] at h
      rw [← h]
      simp
    obtain ⟨e, he, h2⟩ := List.mem_map.1 (hp.mem_iff.1 hm)
    exact ⟨e, he, h2⟩
  · rintro ⟨e, he, rfl⟩
    have hm : e.run ∈ zs := hp.mem_iff.2 (List.mem_map.2 ⟨e, he, rfl⟩)
    obtain ⟨j, hj, h⟩ := List.mem_iff_getElem.1 hm
    exact ⟨j, by simpa using hj, by rw [getElem!_pos zs.toArray j (by simpa using hj)]; simpa using h⟩
end

/-- A run put among others that rise. -/
def putR (rs : List Int) (k : Nat) (r : Int) : List Int := rs.take k ++ r :: rs.drop k
theorem IsRuns.there {es : List Ev} {e : Ev} {rs : List Int} (h : IsRuns es rs) (hm : e.run ∈ rs) : IsRuns (es ++ [e]) rs :=
  ⟨h.rise, by have := h.len; simp; omega, fun r => by
    rw [h.mem]
    constructor
    · rintro ⟨x, hx, rfl⟩; exact ⟨x, by simp [hx], rfl⟩
    · rintro ⟨x, hx, rfl⟩
      rcases List.mem_append.1 hx with hx | hx
      · exact ⟨x, hx, rfl⟩
      · obtain rfl : x = e := by simpa using hx
        exact (h.mem _).1 hm⟩
theorem IsRuns.put {es : List Ev} {e : Ev} {rs : List Int} {k : Nat} (h : IsRuns es rs) (h1 : ∀ i, (hi : i < rs.length) → i < k → rs[i] < e.run) (h2 : ∀ i, (hi : i < rs.length) → k ≤ i → e.run < rs[i]) : IsRuns (es ++ [e]) (putR rs k e.run) := by
  refine ⟨?_, ?_, fun r => ?_⟩
  rotate_left
  · have := h.len
    unfold putR
    simp
    omega
  rotate_left
  · unfold putR
    refine List.pairwise_append.2 ⟨h.rise.sublist (List.take_sublist _ _), List.pairwise_cons.2 ⟨fun b hb => ?_, h.rise.sublist (List.drop_sublist _ _)⟩, fun a ha b hb => ?_⟩
    · obtain ⟨i, hi, rfl⟩ := List.mem_iff_getElem.1 hb
      rw [List.getElem_drop]
      exact h2 _ _ (by omega)
    · obtain ⟨i, hi, rfl⟩ := List.mem_iff_getElem.1 ha
      have hi2 : i < k ∧ i < rs.length := by have q := hi; rw [List.length_take] at q; omega
      rw [List.getElem_take]
      have q1 := h1 i hi2.2 hi2.1
      rcases List.mem_cons.1 hb with rfl | hb
      · exact q1
      · obtain ⟨j, hj, rfl⟩ := List.mem_iff_getElem.1 hb
        rw [List.getElem_drop]
        have q2 := h2 (k + j) (by simp at hj; omega) (by omega)
        omega
  · unfold putR
    rw [List.mem_append, List.mem_cons]
    have hd : r ∈ rs ↔ r ∈ rs.take k ∨ r ∈ rs.drop k := by rw [← List.mem_append, List.take_append_drop]
    constructor
    · rintro (hr | rfl | hr)
      · obtain ⟨x, hx, rfl⟩ := (h.mem _).1 (hd.2 (.inl hr)); exact ⟨x, by simp [hx], rfl⟩
      · exact ⟨e, by simp, rfl⟩
      · obtain ⟨x, hx, rfl⟩ := (h.mem _).1 (hd.2 (.inr hr)); exact ⟨x, by simp [hx], rfl⟩
    · rintro ⟨x, hx, rfl⟩
      rcases List.mem_append.1 hx with hx | hx
      · rcases hd.1 ((h.mem _).2 ⟨x, hx, rfl⟩) with q | q
        · exact .inl q
        · exact .inr (.inr q)
      · obtain rfl : x = e := by simpa using hx
        exact .inr (.inl rfl)
/-- A slice of numbers: empty, or a row somewhere. -/
def IntSl (w : World) (v : Value) (rs : List Int) : Prop :=
  (∃ a c, v = .slice a 0 c ∧ rs = []) ∨ ∃ g o c, v = .slice (some ⟨g, o, none⟩) rs.length c ∧ g < w.heap.size ∧ ∀ i, (h : i < rs.length) → w.cell? ⟨g, o + i, none⟩ = some (.int .i64 rs[i])
theorem IntSl.stay {w w' : World} {v : Value} {rs : List Int} (h : IntSl w v rs) (hb : Below w.heap.size w w') : IntSl w' v rs := by
  rcases h with h | ⟨g, o, c, hv, hg, h⟩
  · exact .inl h
  · exact .inr ⟨g, o, c, hv, Nat.lt_of_lt_of_le hg hb.size, fun i hi => (hb.cell (p := ⟨g, o + i, none⟩) hg).trans (h i hi)⟩
theorem IntSl.form {w : World} {v : Value} {rs : List Int} (h : IntSl w v rs) : ∃ a c, v = .slice a rs.length c := by
  rcases h with ⟨a, c, hv, rfl⟩ | ⟨g, o, c, hv, _⟩
  · exact ⟨a, c, hv⟩
  · exact ⟨_, c, hv⟩
theorem IntSl.row {w : World} {a : Option Addr} {n c : Nat} {rs : List Int} (h : IntSl w (.slice a n c) rs) (h0 : 0 < rs.length) : ∃ g o, a = some ⟨g, o, none⟩ ∧ g < w.heap.size ∧ ∀ i, (h : i < rs.length) → w.cell? ⟨g, o + i, none⟩ = some (.int .i64 rs[i]) := by
  rcases h with ⟨_, _, _, rfl⟩ | ⟨g, o, c', hv, hg, h⟩
  · simp at h0
  · cases hv; exact ⟨g, o, rfl, hg, h⟩
/-- Seqs that rise. -/
def RiseP (es : List Ev) : Prop := ∀ i, (h : i + 1 < es.length) → es[i].seq < es[i + 1].seq
end Go.Proofs.YthggcdadipjiiaaGreatDoor
