/-
  What laws.heldEventS answers of a row that bears its marks: a contract over the seat's program.
-/
import Derived.Test.YticnffakngpkfaaMarkE
namespace Go.Proofs.Yticnffakngpkfaa
open Go.RowKit Go.Sort

set_option maxHeartbeats 4000000 in
set_option maxRecDepth 1000000 in
theorem heldEventS_row (g o c n : Nat) (w : World) (hE : EvsAt w g o (marks 1 n)) (hn : n ≤ 2000) :
    Calls Try.prog 37 #[.slice (some ⟨g, o, none⟩) n c, .int .i64 1] w fun e w' => e = .returned (.int .i64 (1 + 6 * (n : Int))) ∧ Below w.heap.size w w' := by
  have mixed : Try.prog.follows .mixedOrders = true := by kernel_rfl
  have HE := hid hE
  clear hE
  go_enter Try.func37, Try.ntmps37
  go_wp2
  go_loopw [1, 5] (fun kv i wr => ∃ j : Nat, j ≤ n ∧ i = .int .i64 j ∧ kv = .int .i64 (1 + 6 * (j : Int)) ∧ Below w.heap.size w wr) (fun _ i _ => n - (intOf i).toNat)
  case atStart => exact ⟨0, Nat.zero_le _, rfl, rfl, Below.refl _ _⟩
  case round =>
    obtain ⟨j, hj, rfl, rfl, hbel⟩ := hrel
    by_cases hlt : j < n
    · have hA := (HE.out.stay hbel (Nat.le_refl _)).2 j (by rw [marks_len]; exact hlt)
      rw [marks_at] at hA
      unfold mkEv at hA
      obtain ⟨a0, a1, a2, a3, a4, a5⟩ := hA
      simp only at a0 a1 a2 a3 a4 a5
      have c4 := fun w => markText_any (1 + 6 * (j : Int) + 1 + 1 + 1 + 1) w (by omega) (by omega)
      have c5 := fun w => markText_any (1 + 6 * (j : Int) + 1 + 1 + 1 + 1 + 1) w (by omega) (by omega)
      generalize markT (1 + 6 * (j : Int) + 1 + 1 + 1 + 1) = S4 at *
      generalize markT (1 + 6 * (j : Int) + 1 + 1 + 1 + 1 + 1) = S5 at *
      have k4 := cell_regrown a4
      have d4 := fun d os => Calls.regrown_of (w := wr) (d := d) (os := os) (c4 _)
      have H5 := hid a5
      clear c4 a4 a5
      go_wp2
      refine wp_region_quiet_below mixed (by kernel_rfl) ?_
      repeat (quiet_step (first | (go_at_call 49; exact d4 _ _)))
      refine wpQuiet_nil ?_
      intro w2 hw'
      obtain ⟨⟨dq, osq⟩, hw''⟩ := hw'
      have hbX := below_regrown wr dq osq
      have a5' := cell_regrown H5.out dq osq
      rw [← hw''] at hbX a5'
      have hbel2 := hbel.trans (hbX.mono hbel.size)
      clear hw'' d4 k4 a0 a1 a2 a3 hbX H5
      have k5 := cell_regrown a5'
      have d5 := fun d os => Calls.regrown_of (w := w2) (d := d) (os := os) (c5 _)
      clear c5 a5'
      go_wp2
      refine wp_region_quiet_below mixed (by kernel_rfl) ?_
      repeat (quiet_step (first | (go_at_call 49; exact d5 _ _)))
      refine wpQuiet_nil ?_
      intro _ hw'
      obtain ⟨⟨dr, osr⟩, hw''⟩ := hw'
      subst hw''
      have hbel3 := hbel2.trans ((below_regrown w2 dr osr).mono hbel2.size)
      clear d5 k5
      go_wp2
      go_roundw
      case rel => exact ⟨j + 1, by omega, by go_num, by go_num, hbel3⟩
      case measure => simp [intOf]; omega
    · have hje : j = n := by omega
      have HJ := hid hje
      clear hje
      go_wp2
      go_ret
      exact ⟨by rw [HJ.out]; rfl, hbel⟩
theorem heldEventS_none (a : Option Addr) (c : Nat) (w : World) :
    Calls Try.prog 37 #[.slice a 0 c, .int .i64 1] w fun e w' => e = .returned (.int .i64 1) ∧ Below w.heap.size w w' := by
  go_enter Try.func37, Try.ntmps37
  go_wp2
  go_loop [1, 5] (fun k i => k = .int .i64 1 ∧ i = .int .i64 0) (fun _ _ => 0)
  case atStart => exact ⟨rfl, rfl⟩
  case round =>
    obtain ⟨rfl, rfl⟩ := hrel
    go_wp2
    go_ret
    exact ⟨rfl, Below.refl _ _⟩
theorem markEventS_none (a : Option Addr) (c : Nat) (w : World) :
    Calls Try.prog 36 #[.slice a 0 c, .int .i64 1] w fun e w' => e = .returned (.int .i64 1) ∧ w' = w := by
  go_enter Try.func36, Try.ntmps36
  go_wp2
  go_loop [1, 5] (fun k i => k = .int .i64 1 ∧ i = .int .i64 0) (fun _ _ => 0)
  case atStart => exact ⟨rfl, rfl⟩
  case round =>
    obtain ⟨rfl, rfl⟩ := hrel
    go_wp2
    go_ret
    exact ⟨rfl, rfl⟩

/-- A row of one's own, marked. -/
theorem markEventS_own (v : Value) (n base : Nat) (xs : List Value) (w : World) (h : w.ownsRow base 26 6 v n xs) (hn : n ≤ 2000) :
    Calls Try.prog 36 #[v, .int .i64 1] w fun e w' => e = .returned (.int .i64 (1 + 6 * (n : Int))) ∧ w'.ownsRow base 26 6 v n ((marks 1 n).flatMap Ev.cells) ∧ w.grownBy w' v.ownBlock := by
  rcases h.2 with ⟨rfl, rfl⟩ | ⟨g, cap, cur, rfl, hb, hg, hc, hm, hs, ht⟩
  · refine (markEventS_none none 0 w).mono ?_
    rintro e w' ⟨rfl, rfl⟩
    exact ⟨rfl, World.ownsRow_nil _ _ _ _, World.grownBy.refl _ _⟩
  · have hg' : w.heap[g]? = some (.cells cur.toList.toArray 26 (0, 0)) := by simpa using hg
    refine (markEventS_row g n cap cur.toList w hg' (by rw [Array.length_toList, hs]; omega) hn).mono ?_
    rintro e w' ⟨L', rfl, h1, h2, h3, h4⟩
    refine ⟨rfl, ⟨by rw [flat_len, marks_len], .inr ⟨g, cap, L'.toArray, rfl, hb, h1, hc, hm, ?_, by simpa using h3⟩⟩, h4⟩
    rw [List.size_toArray, h2, Array.length_toList, hs]
theorem heldEventS_own (v : Value) (n base : Nat) (w : World) (h : w.ownsRow base 26 6 v n ((marks 1 n).flatMap Ev.cells)) (hn : n ≤ 2000) :
    Calls Try.prog 37 #[v, .int .i64 1] w fun e w' => e = .returned (.int .i64 (1 + 6 * (n : Int))) ∧ Below w.heap.size w w' := by
  rcases sl_of_own h with ⟨a, c, rfl, h0⟩ | ⟨g, o, c, rfl, _, hE⟩
  · have : n = 0 := by rw [← marks_len 1 n, h0]; rfl
    subst this
    exact heldEventS_none a c w
  · rw [marks_len]
    exact heldEventS_row g o c n w hE hn
end Go.Proofs.Yticnffakngpkfaa
