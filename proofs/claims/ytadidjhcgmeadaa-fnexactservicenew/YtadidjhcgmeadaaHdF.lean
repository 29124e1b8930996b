/-
  What laws.heldFlowS answers: contracts over the seat's program.
-/
import Derived.Test.YtadidjhcgmeadaaMkF
import Derived.BigQuiet
import Derived.Lib.QuietBelow
namespace Go.Proofs.Ytadidjhcgmeadaa
open Go.RowKit Go.Sort

set_option maxHeartbeats 1000000 in
set_option maxRecDepth 100000 in
theorem heldFlowS_row (g o c n : Nat) (K : Int) (w : World) (hE : PrsAt w g o (mkP K n)) (hK : 0 < K) (hn : K + 2 * (n : Int) ≤ 1000000000) :
    Calls Try.prog 40 #[.slice (some ⟨g, o, none⟩) n c, .int .i64 K] w fun e w' => e = .returned (.int .i64 (K + 2 * (n : Int))) ∧ Below w.heap.size w w' := by
  have mixed : Try.prog.follows .mixedOrders = true := by kernel_rfl
  have HE := hid hE
  clear hE
  go_enter Try.func40, Try.ntmps40
  go_wp2
  go_loopw [1, 5] (fun kv i wr => ∃ j : Nat, j ≤ n ∧ i = .int .i64 j ∧ kv = .int .i64 (K + 2 * (j : Int)) ∧ Below w.heap.size w wr) (fun _ i _ => n - (intOf i).toNat)
  case atStart => exact ⟨0, Nat.zero_le _, rfl, by simp, Below.refl _ _⟩
  case round =>
    obtain ⟨j, hj, rfl, rfl, hbel⟩ := hrel
    by_cases hlt : j < n
    · obtain ⟨c0, c1⟩ := (HE.out.stay hbel (Nat.le_refl _)).2 j (by rw [mkP_len]; exact hlt)
      rw [mkP_at] at c0 c1
      simp only at c0 c1
      have d1 := fun d os => Calls.regrown_of (w := wr) (d := d) (os := os) (markText_any (K + 2 * (j : Int)) (grow (redrawn wr d) os) (by omega) (by omega))
      have HB := hid hbel
      have C1 := hid c1
      have hK2 : 0 < K + 2 * (j : Int) + 1 := by omega
      have hK3 : K + 2 * (j : Int) + 1 ≤ 1000000000 := by omega
      have d2 := hid (fun W' => markText_any (K + 2 * (j : Int) + 1) W' hK2 hK3)
      clear hbel c1
      generalize markT (K + 2 * (j : Int)) = S4 at *
      generalize markT (K + 2 * (j : Int) + 1) = S5 at *
      go_wp2
      have c0' := cell_regrown c0
      clear c0
      refine wp_region_quiet_below mixed (by kernel_rfl) ?_
      repeat (go_big_quiet_step ((go_at_call 38; exact d1 _ _)))
      refine wpQuiet_nil ?_
      intro W2 hw'
      have HR := hid (show Below wr.heap.size wr W2 by obtain ⟨⟨dq, osq⟩, hw''⟩ := hw'; subst hw''; exact below_regrown wr dq osq)
      clear hw' c0' d1
      have c1 := (HR.out.cell (block_lt_of_cell C1.out)).trans C1.out
      have d3 := fun d os => Calls.regrown_of (w := W2) (d := d) (os := os) (d2.out (grow (redrawn W2 d) os))
      go_wp2
      have c1' := cell_regrown c1
      clear c1
      refine wp_region_quiet_below mixed (by kernel_rfl) ?_
      repeat (go_big_quiet_step ((go_at_call 38; exact d3 _ _)))
      refine wpQuiet_nil ?_
      intro W3 hw'
      have HR3 := hid (show Below W2.heap.size W2 W3 by obtain ⟨⟨dq, osq⟩, hw''⟩ := hw'; subst hw''; exact below_regrown W2 dq osq)
      clear hw' c1' d3
      go_wp2
      go_roundw
      case rel => exact ⟨j + 1, by omega, by go_num, by go_num, (HB.out.trans (HR.out.mono HB.out.size)).trans (HR3.out.mono (HB.out.trans (HR.out.mono HB.out.size)).size)⟩
      case measure => simp [intOf]; omega
    · have hje : j = n := by omega
      have HJ := hid hje
      clear hje
      go_wp2
      go_ret
      exact ⟨by rw [HJ.out]; rfl, hbel⟩
theorem heldFlowS_none (a : Option Addr) (c : Nat) (K : Int) (w : World) :
    Calls Try.prog 40 #[.slice a 0 c, .int .i64 K] w fun e w' => e = .returned (.int .i64 K) ∧ w' = w := by
  go_enter Try.func40, Try.ntmps40
  go_wp2
  go_loopw [1, 5] (fun kv i wr => kv = .int .i64 K ∧ i = .int .i64 0 ∧ wr = w) (fun _ _ _ => 0)
  case atStart => exact ⟨rfl, rfl, rfl⟩
  case round =>
    obtain ⟨rfl, rfl, rfl⟩ := hrel
    go_wp2
    go_ret
    exact ⟨rfl, rfl⟩
theorem heldFlowS_own (v : Value) (n base : Nat) (K : Int) (w : World) (h : w.ownsRow base 57 2 v n ((mkP K n).flatMap Pr.cells)) (hK : 0 < K) (hn : K + 2 * (n : Int) ≤ 1000000000) :
    Calls Try.prog 40 #[v, .int .i64 K] w fun e w' => e = .returned (.int .i64 (K + 2 * (n : Int))) ∧ Below w.heap.size w w' := by
  rcases pr_of_own h with ⟨a, c, rfl, h0⟩ | ⟨g, o, c, rfl, _, hE⟩
  · have : n = 0 := by rw [← mkP_len K n, h0]; rfl
    subst this
    refine (heldFlowS_none a c K w).mono ?_
    rintro e w' ⟨rfl, rfl⟩
    exact ⟨by simp, Below.refl _ _⟩
  · rw [mkP_len]
    exact heldFlowS_row g o c n K w hE hK hn
end Go.Proofs.Ytadidjhcgmeadaa
