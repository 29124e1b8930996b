/-
  What laws.eqCond and laws.eqCondS answer at the same Conds: contracts over the seat's program.
-/
import Derived.Test.YthgmphmghnonbaaDoorZCdRow
import Derived.Lib.QuietBelow
namespace Go.Proofs.YthgmphmghnonbaaDoor
open Go.RowKit

theorem eqCond_same (f o t : ByteArray) (n : Int) (w : World) :
    Calls Tryd.prog 47 #[.agg #[.string f, .string o, .string t, .int .i64 n], .agg #[.string f, .string o, .string t, .int .i64 n]] w fun e w' => e = .returned (.bool true) ∧ Below w.heap.size w w' := by
  go_enter Tryd.func47, Tryd.ntmps47
  go_wp2
  go_ret
  exact ⟨rfl, ((Below.refl _ _).alloc (Nat.le_refl _) _).alloc (by simp) _⟩

set_option maxHeartbeats 4000000 in
set_option maxRecDepth 1000000 in
theorem eqCondS_row (g1 o1 c1 g2 o2 c2 : Nat) (es : List Cd) (w : World) (hE1 : CdsAt w g1 o1 es) (hE2 : CdsAt w g2 o2 es) (hn : es.length ≤ maxLen) :
    Calls Tryd.prog 34 #[.slice (some ⟨g1, o1, none⟩) es.length c1, .slice (some ⟨g2, o2, none⟩) es.length c2] w fun e w' => e = .returned (.bool true) ∧ Below w.heap.size w w' := by
  unfold maxLen at hn
  have mixed : Tryd.prog.follows .mixedOrders = true := by kernel_rfl
  have HE1 := hid hE1
  have HE2 := hid hE2
  clear hE1 hE2
  go_enter Tryd.func34, Tryd.ntmps34
  go_wp2
  go_loopw [5] (fun i wr => ∃ k : Nat, k ≤ es.length ∧ i = .int .i64 k ∧ Below w.heap.size w wr) (fun i _ => es.length - (intOf i).toNat)
  case atStart => exact ⟨0, Nat.zero_le _, rfl, Below.refl _ _⟩
  case round =>
    obtain ⟨k, hk, rfl, hbel⟩ := hrel
    by_cases hlt : k < es.length
    · obtain ⟨a0, a1, a2, a3⟩ := (HE1.out.stay hbel (Nat.le_refl _)).2 k hlt
      obtain ⟨b0, b1, b2, b3⟩ := (HE2.out.stay hbel (Nat.le_refl _)).2 k hlt
      generalize es[k].fld = q0 at *
      generalize es[k].op = q1 at *
      generalize es[k].wrd = q2 at *
      generalize es[k].n = q3 at *
      have k0 := cell_regrown a0
      have k1 := cell_regrown a1
      have k2 := cell_regrown a2
      have k3 := cell_regrown a3
      have l0 := cell_regrown b0
      have l1 := cell_regrown b1
      have l2 := cell_regrown b2
      have l3 := cell_regrown b3
      have d1 := fun d os => Calls.regrown_of (w := wr) (d := d) (os := os) (eqCond_same q0 q1 q2 q3 _)
      clear a0 a1 a2 a3 b0 b1 b2 b3
      go_wp2
      refine wp_region_quiet_below mixed (by kernel_rfl) ?_
      repeat (quiet_step (first | (go_at_call 47; exact d1 _ _)))
      refine wpQuiet_nil ?_
      intro _ hw'
      obtain ⟨⟨dq, osq⟩, hw''⟩ := hw'
      subst hw''
      have hbX := hbel.trans ((below_regrown wr dq osq).mono hbel.size)
      clear k0 k1 k2 k3 l0 l1 l2 l3 d1
      go_wp2
      go_roundw
      case rel => exact ⟨k + 1, by omega, by go_num, hbX⟩
      case measure => simp [intOf]; omega
    · go_wp2
      go_ret
      exact ⟨rfl, hbel⟩
theorem eqCondS_none (a1 a2 : Option Addr) (c1 c2 : Nat) (w : World) :
    Calls Tryd.prog 34 #[.slice a1 0 c1, .slice a2 0 c2] w fun e w' => e = .returned (.bool true) ∧ Below w.heap.size w w' := by
  go_enter Tryd.func34, Tryd.ntmps34
  go_wp2
  go_loop [5] (fun i => i = .int .i64 0) (fun _ => 0)
  case atStart => exact rfl
  case round =>
    subst hrel
    go_wp2
    go_ret
    exact ⟨rfl, Below.refl _ _⟩
theorem eqCondS_any (v1 v2 : Value) (es : List Cd) (w : World) (h1 : CdSl w v1 es) (h2 : CdSl w v2 es) (hn : es.length ≤ maxLen) :
    Calls Tryd.prog 34 #[v1, v2] w fun e w' => e = .returned (.bool true) ∧ Below w.heap.size w w' := by
  rcases h1 with ⟨a, c, rfl, rfl⟩ | ⟨g, o, c, rfl, hp, h⟩
  · rcases h2 with ⟨a', c', rfl, _⟩ | ⟨g', o', c', rfl, hp', h'⟩
    · exact eqCondS_none a a' c c' w
    · simp at hp'
  · rcases h2 with ⟨a', c', rfl, h0⟩ | ⟨g', o', c', rfl, hp', h'⟩
    · rw [h0] at hp; simp at hp
    · exact eqCondS_row g o c g' o' c' es w h h' hn
end Go.Proofs.YthgmphmghnonbaaDoor
