/-
  Names: what spec.NameRight, impl.NameRight, impl.isLetter and impl.isNameByte answer, for every text and byte: contracts over the seat's program.
-/
import Derived.Test.YtimlnbfalnkmhaaGreatDoorZGen2
import Derived.BigQuiet
import Derived.Deep.QuietTactic
namespace Go.Proofs.YtimlnbfalnkmhaaGreatDoor
open Go.RowKit


def letC (c : Int) : Bool := decide (97 ≤ c) && decide (c ≤ 122)
def namC (c : Int) : Bool := letC c || (decide (48 ≤ c) && decide (c ≤ 57)) || c == 95
def okC (j : Nat) (c : Int) : Bool := letC c || (decide (j ≠ 0) && namC c)
def NR (s : ByteArray) : Prop := 1 ≤ s.size ∧ s.size ≤ 20 ∧ ∀ j, (h : j < s.size) → okC j (s[j].toNat : Int) = true
def nrB (s : ByteArray) : Bool := decide (1 ≤ s.size) && (decide (s.size ≤ 20) && decide (∀ j, (h : j < s.size) → okC j (s[j].toNat : Int) = true))
theorem nr_yes {s : ByteArray} (h1 : 1 ≤ s.size) (h2 : s.size ≤ 20) (h3 : ∀ j, (h : j < s.size) → okC j (s[j].toNat : Int) = true) : nrB s = true := by
  unfold nrB; simp [h1, h2]; exact h3
theorem nr_no {s : ByteArray} (h : ¬ (1 ≤ s.size ∧ s.size ≤ 20)) : nrB s = false := by
  unfold nrB
  by_cases a : 1 ≤ s.size
  · have b : ¬ s.size ≤ 20 := fun b => h ⟨a, b⟩
    simp [b]
  · simp [a]
theorem nr_at {s : ByteArray} {j : Nat} (hj : j < s.size) (h : okC j (s[j].toNat : Int) = false) : nrB s = false := by
  unfold nrB
  have : decide (∀ j, (h : j < s.size) → okC j (s[j].toNat : Int) = true) = false := by
    rw [decide_eq_false_iff_not]; intro f; rw [f j hj] at h; cases h
  rw [this]; simp

theorem letC_yes {c : Int} (h1 : 97 ≤ c) (h2 : c ≤ 122) : letC c = true := by simp [letC, h1, h2]
theorem letC_no {c : Int} (h : ¬ (97 ≤ c ∧ c ≤ 122)) : letC c = false := by
  unfold letC; rw [Bool.and_eq_false_iff]; simp; omega

theorem isLetter_any (c : Int) (w : World) :
    Calls Tryz.prog 194 #[.int .u8 c] w fun e w' => e = .returned (.bool (letC c)) ∧ w' = w := by
  by_cases h1 : 97 ≤ c
  · by_cases h2 : c ≤ 122
    · rw [letC_yes h1 h2]
      go_enter Tryz.func194, Tryz.ntmps194
      go_wp2
      go_ret
      exact ⟨rfl, rfl⟩
    · rw [letC_no (by omega)]
      go_enter Tryz.func194, Tryz.ntmps194
      go_wp2
      go_ret
      exact ⟨rfl, rfl⟩
  · rw [letC_no (by omega)]
    go_enter Tryz.func194, Tryz.ntmps194
    go_wp2
    go_ret
    exact ⟨rfl, rfl⟩

theorem namC_let {c : Int} (h : letC c = true) : namC c = true := by simp [namC, h]
theorem namC_dig {c : Int} (h1 : 48 ≤ c) (h2 : c ≤ 57) : namC c = true := by simp [namC, h1, h2]
theorem namC_und {c : Int} (h : c = 95) : namC c = true := by simp [namC, h]
theorem namC_no {c : Int} (h : letC c = false) (h1 : ¬ (48 ≤ c ∧ c ≤ 57)) (h2 : c ≠ 95) : namC c = false := by
  unfold namC; rw [h]; simp [h2]; omega

theorem isNameByte_any (c : Int) (w : World) :
    Calls Tryz.prog 195 #[.int .u8 c] w fun e w' => e = .returned (.bool (namC c)) ∧ w' = w := by
  cases hl : letC c with
  | true =>
    rw [namC_let hl]
    have hc : ∀ w, Calls Tryz.prog 194 #[.int .u8 c] w fun e w' => e = .returned (.bool true) ∧ w' = w := fun w => by have := isLetter_any c w; rwa [hl] at this
    clear hl
    go_enter Tryz.func195, Tryz.ntmps195
    go_wp2_with (go_at_call 194; refine (hc _).mono ?_; rintro e w' ⟨rfl, rfl⟩)
    go_ret
    exact ⟨rfl, rfl⟩
  | false =>
    have hc : ∀ w, Calls Tryz.prog 194 #[.int .u8 c] w fun e w' => e = .returned (.bool false) ∧ w' = w := fun w => by have := isLetter_any c w; rwa [hl] at this
    by_cases h1 : 48 ≤ c
    · by_cases h2 : c ≤ 57
      · rw [namC_dig h1 h2]
        clear hl
        go_enter Tryz.func195, Tryz.ntmps195
        go_wp2_with (go_at_call 194; refine (hc _).mono ?_; rintro e w' ⟨rfl, rfl⟩)
        go_ret
        exact ⟨rfl, rfl⟩
      · by_cases h3 : c = 95
        · rw [namC_und h3]
          clear hl
          subst h3
          go_enter Tryz.func195, Tryz.ntmps195
          go_wp2_with (go_at_call 194; refine (hc _).mono ?_; rintro e w' ⟨rfl, rfl⟩)
          go_ret
          exact ⟨rfl, rfl⟩
        · rw [namC_no hl (by omega) h3]
          have h4 : (c == 95) = false := by simp [h3]
          have h5 : decide (c ≤ 57) = false := by simp [h2]
          clear hl h3
          go_enter Tryz.func195, Tryz.ntmps195
          go_wp2_with (go_at_call 194; refine (hc _).mono ?_; rintro e w' ⟨rfl, rfl⟩)
          go_ret
          exact ⟨rfl, rfl⟩
    · rw [namC_no hl (by omega) (by omega)]
      have h4 : (c == 95) = false := by simp; omega
      clear hl
      go_enter Tryz.func195, Tryz.ntmps195
      go_wp2_with (go_at_call 194; refine (hc _).mono ?_; rintro e w' ⟨rfl, rfl⟩)
      go_ret
      exact ⟨rfl, rfl⟩

theorem okC_no0 {j : Nat} {c : Int} (h : letC c = false) (hj : j = 0) : okC j c = false := by simp [okC, h, hj]
theorem okC_no {j : Nat} {c : Int} (h : namC c = false) : okC j c = false := by
  have : letC c = false := by
    cases hl : letC c with
    | false => rfl
    | true => rw [namC_let hl] at h; cases h
  simp [okC, h, this]
theorem okC_let {j : Nat} {c : Int} (h : letC c = true) : okC j c = true := by simp [okC, h]
theorem okC_nam {j : Nat} {c : Int} (h : namC c = true) (hj : j ≠ 0) : okC j c = true := by simp [okC, h, hj]

theorem okC_step {s : ByteArray} {k : Nat} {hk : k < s.size} (ha : ∀ j, j < k → (h : j < s.size) → okC j (s[j].toNat : Int) = true) (ho : okC k (s[k].toNat : Int) = true) :
    ∀ j, j < k + 1 → (h : j < s.size) → okC j (s[j].toNat : Int) = true := by
  intro j hj h
  by_cases e : j = k
  · subst e; exact ho
  · exact ha j (by omega) h
theorem byteCases (c : Int) (k : Nat) :
    (okC k c = true ∧ 97 ≤ c ∧ c ≤ 122) ∨
    (okC k c = false ∧ ((k : Int) == 0) = true ∧ c < 97) ∨
    (okC k c = false ∧ ((k : Int) == 0) = true ∧ 97 ≤ c ∧ decide (c ≤ 122) = false) ∨
    (okC k c = true ∧ ((k : Int) == 0) = false ∧ c < 97 ∧ 48 ≤ c ∧ c ≤ 57) ∨
    (okC k c = true ∧ ((k : Int) == 0) = false ∧ c < 97 ∧ 48 ≤ c ∧ decide (c ≤ 57) = false ∧ (c != 95) = false) ∨
    (okC k c = false ∧ ((k : Int) == 0) = false ∧ c < 97 ∧ 48 ≤ c ∧ decide (c ≤ 57) = false ∧ (c != 95) = true) ∨
    (okC k c = false ∧ ((k : Int) == 0) = false ∧ c < 97 ∧ c < 48 ∧ (c != 95) = true) ∨
    (okC k c = false ∧ ((k : Int) == 0) = false ∧ 97 ≤ c ∧ decide (c ≤ 122) = false ∧ 48 ≤ c ∧ decide (c ≤ 57) = false ∧ (c != 95) = true) := by
  by_cases h : 97 ≤ c ∧ c ≤ 122
  · exact .inl ⟨okC_let (letC_yes h.1 h.2), h⟩
  · have hl := letC_no h
    refine .inr ?_
    by_cases hk : k = 0
    · have hk' : ((k : Int) == 0) = true := by simp [hk]
      by_cases h1 : c < 97
      · exact .inl ⟨okC_no0 hl hk, hk', h1⟩
      · exact .inr (.inl ⟨okC_no0 hl hk, hk', by omega, by simp; omega⟩)
    · have hk' : ((k : Int) == 0) = false := by simp [hk]
      refine .inr (.inr ?_)
      by_cases h1 : c < 97
      · by_cases h2 : 48 ≤ c
        · by_cases h3 : c ≤ 57
          · exact .inl ⟨okC_nam (namC_dig h2 h3) hk, hk', h1, h2, h3⟩
          · by_cases h4 : c = 95
            · exact .inr (.inl ⟨okC_nam (namC_und h4) hk, hk', h1, h2, by simp; omega, by simp [h4]⟩)
            · exact .inr (.inr (.inl ⟨okC_no (namC_no hl (by omega) h4), hk', h1, h2, by simp; omega, by simp [h4]⟩))
        · exact .inr (.inr (.inr (.inl ⟨okC_no (namC_no hl (by omega) (by omega)), hk', h1, by omega, by simp; omega⟩)))
      · exact .inr (.inr (.inr (.inr ⟨okC_no (namC_no hl (by omega) (by omega)), hk', by omega, by simp; omega, by omega, by simp; omega, by simp; omega⟩)))

set_option maxHeartbeats 400000 in
theorem specNameRight_any (s : ByteArray) (w : World) (hs : s.size ≤ maxLen) :
    Calls Tryz.prog 69 #[.string s] w fun e w' => e = .returned (.bool (nrB s)) ∧ w' = w := by
  unfold maxLen at hs
  by_cases h1 : 1 ≤ s.size
  · by_cases h2 : s.size ≤ 20
    · go_enter Tryz.func69, Tryz.ntmps69
      go_wp2
      go_loop [3] (fun i => ∃ k : Nat, k ≤ s.size ∧ i = .int .i64 k ∧ ∀ j, j < k → (h : j < s.size) → okC j (s[j].toNat : Int) = true) (fun i => s.size - (intOf i).toNat)
      case atStart => exact ⟨0, Nat.zero_le _, rfl, fun j hj => absurd hj (by omega)⟩
      case round =>
        obtain ⟨k, hk, rfl, hall⟩ := hrel
        have HA := hid hall
        clear hall
        by_cases hlt : k < s.size
        · have hE : ∀ b, okC k (s[k].toNat : Int) = b → Hid (okC k (s[k].toNat : Int) = b) := fun _ h => h
          rcases byteCases (s[k].toNat : Int) k with ⟨ho, c1, c2⟩ | ⟨ho, hk0, c1⟩ | ⟨ho, hk0, c1, c2⟩ | ⟨ho, hk1, c1, c2, c3⟩ | ⟨ho, hk1, c1, c2, c3, c4⟩ | ⟨ho, hk1, c1, c2, c3, c4⟩ | ⟨ho, hk1, c1, c2, c3⟩ | ⟨ho, hk1, c1, c2, c3, c4, c5⟩
          all_goals
            have HO := hE _ ho
            clear ho hE
            go_wp2
          all_goals
            first
            | (go_ret; exact ⟨ret_bool (nr_at hlt HO.out).symm, rfl⟩)
            | (go_round
               case rel => exact ⟨k + 1, by omega, by go_num, okC_step HA.out HO.out⟩
               case measure => simp [intOf]; omega)
        · go_wp2
          go_ret
          exact ⟨ret_bool (nr_yes h1 h2 (fun j hj => HA.out j (by omega) hj)).symm, rfl⟩
    · rw [nr_no (by omega)]
      go_enter Tryz.func69, Tryz.ntmps69
      go_wp2
      go_ret
      exact ⟨rfl, rfl⟩
  · rw [nr_no (by omega)]
    go_enter Tryz.func69, Tryz.ntmps69
    go_wp2
    go_ret
    exact ⟨rfl, rfl⟩

theorem let_of_ok {c : Int} : letC c = okC 0 c := by simp [okC]
theorem nam_of_ok {j : Nat} {c : Int} (hj : j ≠ 0) : namC c = okC j c := by
  unfold okC
  cases hl : letC c with
  | true => simp [namC_let hl]
  | false => simp [hj]

theorem ok_first {s : ByteArray} {h0 : 0 < s.size} (hl : letC (s[0].toNat : Int) = true) : ∀ j, j < 1 → (h : j < s.size) → okC j (s[j].toNat : Int) = true := by
  intro j hj h
  obtain rfl : j = 0 := by omega
  exact okC_let hl

set_option maxHeartbeats 400000 in
theorem implNameRight_any (s : ByteArray) (w : World) (hs : s.size ≤ maxLen) :
    Calls Tryz.prog 180 #[.string s] w fun e w' => e = .returned (.bool (nrB s)) ∧ w' = w := by
  unfold maxLen at hs
  by_cases h1 : 1 ≤ s.size
  · by_cases h2 : s.size ≤ 20
    · cases hl : letC (s[0].toNat : Int) with
      | false =>
        rw [nr_at (show 0 < s.size by omega) (okC_no0 hl rfl)]
        have hc : ∀ w, Calls Tryz.prog 194 #[.int .u8 (s[0].toNat : Int)] w fun e w' => e = .returned (.bool false) ∧ w' = w := fun w => by have := isLetter_any (s[0].toNat : Int) w; rwa [hl] at this
        clear hl
        go_enter Tryz.func180, Tryz.ntmps180
        go_wp2_with (go_at_call 194; refine (hc _).mono ?_; rintro e w' ⟨rfl, rfl⟩)
        go_ret
        exact ⟨rfl, rfl⟩
      | true =>
        have hc : ∀ w, Calls Tryz.prog 194 #[.int .u8 (s[0].toNat : Int)] w fun e w' => e = .returned (.bool true) ∧ w' = w := fun w => by have := isLetter_any (s[0].toNat : Int) w; rwa [hl] at this
        have HL := hid hl
        clear hl
        go_enter Tryz.func180, Tryz.ntmps180
        go_wp2_with (go_at_call 194; refine (hc _).mono ?_; rintro e w' ⟨rfl, rfl⟩)
        clear hc
        go_loop [3] (fun i => ∃ k : Nat, 1 ≤ k ∧ k ≤ s.size ∧ i = .int .i64 k ∧ ∀ j, j < k → (h : j < s.size) → okC j (s[j].toNat : Int) = true) (fun i => s.size - (intOf i).toNat)
        case atStart => exact ⟨1, by omega, by omega, rfl, ok_first HL.out⟩
        case round =>
          obtain ⟨k, hk0, hk, rfl, hall⟩ := hrel
          have HA := hid hall
          clear hall
          by_cases hlt : k < s.size
          · have hc : ∀ w, Calls Tryz.prog 195 #[.int .u8 (s[k].toNat : Int)] w fun e w' => e = .returned (.bool (okC k (s[k].toNat : Int))) ∧ w' = w := fun w => by rw [← nam_of_ok (show k ≠ 0 by omega)]; exact isNameByte_any _ w
            cases ho : okC k (s[k].toNat : Int) with
            | false =>
              rw [ho] at hc
              have HO := hid ho
              clear ho
              go_wp2_with (go_at_call 195; refine (hc _).mono ?_; rintro e w' ⟨rfl, rfl⟩)
              go_ret
              exact ⟨ret_bool (nr_at hlt HO.out).symm, rfl⟩
            | true =>
              rw [ho] at hc
              have HO := hid ho
              clear ho
              go_wp2_with (go_at_call 195; refine (hc _).mono ?_; rintro e w' ⟨rfl, rfl⟩)
              go_round
              case rel => exact ⟨k + 1, by omega, by omega, by go_num, okC_step HA.out HO.out⟩
              case measure => simp [intOf]; omega
          · go_wp2
            go_ret
            exact ⟨ret_bool (nr_yes h1 h2 (fun j hj => HA.out j (by omega) hj)).symm, rfl⟩
    · rw [nr_no (by omega)]
      go_enter Tryz.func180, Tryz.ntmps180
      go_wp2
      go_ret
      exact ⟨rfl, rfl⟩
  · rw [nr_no (by omega)]
    go_enter Tryz.func180, Tryz.ntmps180
    go_wp2
    go_ret
    exact ⟨rfl, rfl⟩
end Go.Proofs.YtimlnbfalnkmhaaGreatDoor
