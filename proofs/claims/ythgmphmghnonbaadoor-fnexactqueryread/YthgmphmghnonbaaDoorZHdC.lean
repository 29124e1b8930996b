/-
  What laws.heldCondS answers of marked Conds: a contract over the seat's program.
-/
import Derived.Test.YthgmphmghnonbaaDoorZMkC
import Derived.BigQuiet
import Derived.Lib.QuietBelow
namespace Go.Proofs.YthgmphmghnonbaaDoor
open Go.RowKit Go.Sort

set_option maxHeartbeats 2000000 in
set_option maxRecDepth 100000 in
theorem heldCondS_row (g o c n : Nat) (K : Int) (w : World) (hE : CdsAt w g o (mkC K n)) (hK : 0 < K) (hn : K + 4 * (n : Int) ≤ 1000000000) :
    Calls Tryd.prog 36 #[.slice (some ⟨g, o, none⟩) n c, .int .i64 K] w fun e w' => e = .returned (.int .i64 (K + 4 * (n : Int))) ∧ Below w.heap.size w w' := by
  have mixed : Tryd.prog.follows .mixedOrders = true := by kernel_rfl
  have HE := hid hE
  clear hE
  go_enter Tryd.func36, Tryd.ntmps36
  go_wp2
  go_loopw [1, 5] (fun kv i wr => ∃ j : Nat, j ≤ n ∧ i = .int .i64 j ∧ kv = .int .i64 (K + 4 * (j : Int)) ∧ Below w.heap.size w wr) (fun _ i _ => n - (intOf i).toNat)
  case atStart => exact ⟨0, Nat.zero_le _, rfl, by simp, Below.refl _ _⟩
  case round =>
    obtain ⟨j, hj, rfl, rfl, hbel⟩ := hrel
    by_cases hlt : j < n
    · obtain ⟨c0, c1, c2, c3⟩ := (HE.out.stay hbel (Nat.le_refl _)).2 j (by rw [mkC_len]; exact hlt)
      rw [mkC_at] at c0 c1 c2 c3
      simp only at c0 c1 c2 c3
      have d1 := fun d os => Calls.regrown_of (w := wr) (d := d) (os := os) (markText_any (K + 4 * (j : Int)) (grow (redrawn wr d) os) (by omega) (by omega))
      have HB := hid hbel
      have C1 := hid c1
      have C2 := hid c2
      have C3 := hid c3
      have d2 := hid (fun W' => markText_any (K + 4 * (j : Int) + 1) W' (by omega) (by omega))
      have e6 : K + 4 * (j : Int) + 1 + 1 = K + 4 * (j : Int) + 2 := by omega
      have e7 := hid (show K + 4 * (j : Int) + 1 + 1 + 1 = K + 4 * (j : Int) + 3 by omega)
      have d3 := hid (fun w => show Calls Tryd.prog 48 #[.int .i64 (K + 4 * (j : Int) + 1 + 1)] w (fun e w' => e = .returned (.string (markT (K + 4 * (j : Int) + 2))) ∧ Below w.heap.size w w') from by rw [e6]; exact markText_any _ w (by omega) (by omega))
      clear e6
      clear hbel c1 c2 c3
      generalize markT (K + 4 * (j : Int)) = S4 at *
      generalize markT (K + 4 * (j : Int) + 1) = S5 at *
      generalize markT (K + 4 * (j : Int) + 2) = S6 at *
      go_wp2
      have k0 := cell_regrown c0
      clear c0
      refine wp_region_quiet_below mixed (by kernel_rfl) ?_
      repeat (go_big_quiet_step ((go_at_call 48; exact d1 _ _)))
      refine wpQuiet_nil ?_
      intro W2 hw'
      have HR2 := hid (show Below wr.heap.size wr W2 by obtain ⟨⟨dq, osq⟩, hw''⟩ := hw'; subst hw''; exact below_regrown wr dq osq)
      clear hw' k0 d1
      have c1 := (HR2.out.cell (block_lt_of_cell C1.out)).trans C1.out
      have e1 := fun d os => Calls.regrown_of (w := W2) (d := d) (os := os) (d2.out (grow (redrawn W2 d) os))
      go_wp2
      have k0 := cell_regrown c1
      clear c1
      refine wp_region_quiet_below mixed (by kernel_rfl) ?_
      repeat (go_big_quiet_step ((go_at_call 48; exact e1 _ _)))
      refine wpQuiet_nil ?_
      intro W3 hw'
      have HR3a := hid (show Below W2.heap.size W2 W3 by obtain ⟨⟨dq, osq⟩, hw''⟩ := hw'; subst hw''; exact below_regrown W2 dq osq)
      have HR3 := hid (HR2.out.trans (HR3a.out.mono HR2.out.size))
      clear hw' k0 e1
      have c2 := (HR3.out.cell (block_lt_of_cell C2.out)).trans C2.out
      have e2 := fun d os => Calls.regrown_of (w := W3) (d := d) (os := os) (d3.out (grow (redrawn W3 d) os))
      go_wp2
      have k0 := cell_regrown c2
      clear c2
      refine wp_region_quiet_below mixed (by kernel_rfl) ?_
      repeat (go_big_quiet_step ((go_at_call 48; exact e2 _ _)))
      refine wpQuiet_nil ?_
      intro W4 hw'
      have HR4a := hid (show Below W3.heap.size W3 W4 by obtain ⟨⟨dq, osq⟩, hw''⟩ := hw'; subst hw''; exact below_regrown W3 dq osq)
      have HR4 := hid (HR3.out.trans (HR4a.out.mono HR3.out.size))
      clear hw' k0 e2
      have c3 := (HR4.out.cell (block_lt_of_cell C3.out)).trans C3.out
      rw [← e7.out] at c3
      go_wp2
      go_roundw
      case rel => exact ⟨j + 1, by omega, by go_num, by go_num, HB.out.trans (HR4.out.mono HB.out.size)⟩
      case measure => simp [intOf]; omega
    · have hje : j = n := by omega
      have HJ := hid hje
      clear hje
      go_wp2
      go_ret
      exact ⟨by rw [HJ.out]; rfl, hbel⟩
theorem heldCondS_none (a : Option Addr) (c : Nat) (K : Int) (w : World) :
    Calls Tryd.prog 36 #[.slice a 0 c, .int .i64 K] w fun e w' => e = .returned (.int .i64 K) ∧ w' = w := by
  go_enter Tryd.func36, Tryd.ntmps36
  go_wp2
  go_loopw [1, 5] (fun kv i wr => kv = .int .i64 K ∧ i = .int .i64 0 ∧ wr = w) (fun _ _ _ => 0)
  case atStart => exact ⟨rfl, rfl, rfl⟩
  case round =>
    obtain ⟨rfl, rfl, rfl⟩ := hrel
    go_wp2
    go_ret
    exact ⟨rfl, rfl⟩
theorem heldCondS_own (v : Value) (n base : Nat) (K : Int) (w : World) (h : w.ownsRow base 45 4 v n ((mkC K n).flatMap Cd.cells)) (hK : 0 < K) (hn : K + 4 * (n : Int) ≤ 1000000000) :
    Calls Tryd.prog 36 #[v, .int .i64 K] w fun e w' => e = .returned (.int .i64 (K + 4 * (n : Int))) ∧ Below w.heap.size w w' := by
  rcases cd_of_own h with ⟨a, c, rfl, h0⟩ | ⟨g, o, c, rfl, _, hE⟩
  · have : n = 0 := by rw [← mkC_len K n, h0]; rfl
    subst this
    refine (heldCondS_none a c K w).mono ?_
    rintro e w' ⟨rfl, rfl⟩
    exact ⟨by simp, Below.refl _ _⟩
  · rw [mkC_len]
    exact heldCondS_row g o c n K w hE hK hn
end Go.Proofs.YthgmphmghnonbaaDoor
