/-
  What spec.l03At, slices.Index and slices.Contains answer at a row of texts: contracts over the seat's program.
-/
import Derived.Test.YtadidjhcgmeadaaDfMath
namespace Go.Proofs.Ytadidjhcgmeadaa
open Go.RowKit

theorem l03At_row (g o c : Nat) (ss : List ByteArray) (t : ByteArray) (w : World) (hE : StrsAt w g o ss) (hn : ss.length ≤ maxLen) :
    Calls Try.prog 31 #[.slice (some ⟨g, o, none⟩) ss.length c, .string t] w fun e w' => e = .returned (.int .i64 (atI ss t)) ∧ w' = w := by
  unfold maxLen at hn
  have HE := hid hE
  clear hE
  go_enter Try.func31, Try.ntmps31
  go_wp2
  go_loop [5] (fun i => ∃ k : Nat, k ≤ ss.length ∧ i = .int .i64 k ∧ ∀ j, j < k → (h : j < ss.length) → ss[j] ≠ t) (fun i => ss.length - (intOf i).toNat)
  case atStart => exact ⟨0, Nat.zero_le _, rfl, fun j hj => absurd hj (by omega)⟩
  case round =>
    obtain ⟨k, hk, rfl, hall⟩ := hrel
    have HA := hid hall
    clear hall
    by_cases hlt : k < ss.length
    · have c0 := HE.out.2 k hlt
      by_cases he : ss[k] = t
      · have HF := hid (atI_first hlt HA.out he)
        rw [he] at c0
        clear he
        go_wp2
        go_ret
        exact ⟨ret_int HF.out.symm, rfl⟩
      · have HO := hid (ne_step (hk := hlt) HA.out he)
        have hne := str_ne he
        clear he
        go_wp2
        go_round
        case rel => exact ⟨k + 1, by omega, by go_num, HO.out⟩
        case measure => simp [intOf]; omega
    · have HF := hid (atI_out (ne_all HA.out (by omega)))
      go_wp2
      go_ret
      exact ⟨ret_int HF.out.symm, rfl⟩
theorem l03At_none (a : Option Addr) (c : Nat) (t : ByteArray) (w : World) :
    Calls Try.prog 31 #[.slice a 0 c, .string t] w fun e w' => e = .returned (.int .i64 (-1)) ∧ w' = w := by
  go_enter Try.func31, Try.ntmps31
  go_wp2
  go_loop [5] (fun i => i = .int .i64 0) (fun _ => 0)
  case atStart => exact rfl
  case round =>
    subst hrel
    go_wp2
    go_ret
    exact ⟨rfl, rfl⟩
theorem l03At_any (v : Value) (ss : List ByteArray) (t : ByteArray) (w : World) (h : StrSl w v ss) (hn : ss.length ≤ maxLen) :
    Calls Try.prog 31 #[v, .string t] w fun e w' => e = .returned (.int .i64 (atI ss t)) ∧ w' = w := by
  rcases h with ⟨a, c, rfl, rfl⟩ | ⟨g, o, c, rfl, _, h⟩
  · exact l03At_none a c t w
  · exact l03At_row g o c ss t w h hn

theorem idxS_row (g o c : Nat) (ss : List ByteArray) (t : ByteArray) (w : World) (hE : StrsAt w g o ss) (hn : ss.length ≤ maxLen) :
    Calls Try.prog 49 #[.slice (some ⟨g, o, none⟩) ss.length c, .string t] w fun e w' => e = .returned (.int .i64 (atI ss t)) ∧ w' = w := by
  unfold maxLen at hn
  have HE := hid hE
  clear hE
  go_enter Try.func49, Try.ntmps49
  go_wp2
  go_loop [8] (fun i => ∃ k : Nat, k ≤ ss.length ∧ i = .int .i64 k ∧ ∀ j, j < k → (h : j < ss.length) → ss[j] ≠ t) (fun i => ss.length - (intOf i).toNat)
  case atStart => exact ⟨0, Nat.zero_le _, rfl, fun j hj => absurd hj (by omega)⟩
  case round =>
    obtain ⟨k, hk, rfl, hall⟩ := hrel
    have HA := hid hall
    clear hall
    by_cases hlt : k < ss.length
    · have c0 := HE.out.2 k hlt
      by_cases he : ss[k] = t
      · have HF := hid (atI_first hlt HA.out he)
        rw [he] at c0
        clear he
        go_wp2
        go_ret
        exact ⟨ret_int HF.out.symm, rfl⟩
      · have HO := hid (ne_step (hk := hlt) HA.out he)
        have hne := str_ne (fun e => he e.symm)
        clear he
        go_wp2
        go_round
        case rel => exact ⟨k + 1, by omega, by go_num, HO.out⟩
        case measure => simp [intOf]; omega
    · have HF := hid (atI_out (ne_all HA.out (by omega)))
      go_wp2
      go_ret
      exact ⟨ret_int HF.out.symm, rfl⟩
theorem idxS_none (a : Option Addr) (c : Nat) (t : ByteArray) (w : World) :
    Calls Try.prog 49 #[.slice a 0 c, .string t] w fun e w' => e = .returned (.int .i64 (-1)) ∧ w' = w := by
  go_enter Try.func49, Try.ntmps49
  go_wp2
  go_loop [8] (fun i => i = .int .i64 0) (fun _ => 0)
  case atStart => exact rfl
  case round =>
    subst hrel
    go_wp2
    go_ret
    exact ⟨rfl, rfl⟩
theorem idxS_any (v : Value) (ss : List ByteArray) (t : ByteArray) (w : World) (h : StrSl w v ss) (hn : ss.length ≤ maxLen) :
    Calls Try.prog 49 #[v, .string t] w fun e w' => e = .returned (.int .i64 (atI ss t)) ∧ w' = w := by
  rcases h with ⟨a, c, rfl, rfl⟩ | ⟨g, o, c, rfl, _, h⟩
  · exact idxS_none a c t w
  · exact idxS_row g o c ss t w h hn
theorem hasS_any (v : Value) (ss : List ByteArray) (t : ByteArray) (w : World) (h : StrSl w v ss) (hn : ss.length ≤ maxLen) :
    Calls Try.prog 44 #[v, .string t] w fun e w' => e = .returned (.bool (inB ss t)) ∧ w' = w := by
  obtain ⟨a, c, rfl⟩ := h.form
  have c1 := idxS_any (.slice a ss.length c) ss t w h hn
  have HI := hid (show inB ss t = decide (0 ≤ atI ss t) from rfl)
  generalize inB ss t = B at *
  generalize atI ss t = I at *
  clear h hn
  go_enter Try.func44, Try.ntmps44
  go_wp2_with fail
  refine c1.mono ?_
  rintro e w1 ⟨rfl, rfl⟩
  go_wp2
  go_ret
  exact ⟨ret_bool (by rw [HI.out]), rfl⟩
end Go.Proofs.Ytadidjhcgmeadaa
