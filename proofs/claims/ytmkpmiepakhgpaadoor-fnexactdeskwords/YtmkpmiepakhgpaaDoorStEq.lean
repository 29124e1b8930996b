/-
  What laws.eqStringS answers of two slices of the same texts: a contract over the seat's program.
-/
import Derived.Test.YtmkpmiepakhgpaaDoorStrs
import Derived.Lib.QuietBelow
namespace Go.Proofs.YtmkpmiepakhgpaaDoor
open Go.RowKit Go.Sort

set_option maxHeartbeats 1000000 in
set_option maxRecDepth 100000 in
theorem eqStringS_row (g1 o1 c1 g2 o2 c2 : Nat) (ss : List ByteArray) (w : World) (hE1 : StrsAt w g1 o1 ss) (hE2 : StrsAt w g2 o2 ss) (hn : ss.length ≤ maxLen) :
    Calls Tryd.prog 6 #[.slice (some ⟨g1, o1, none⟩) ss.length c1, .slice (some ⟨g2, o2, none⟩) ss.length c2] w fun e w' => e = .returned (.bool true) ∧ Below w.heap.size w w' := by
  unfold maxLen at hn
  have mixed : Tryd.prog.follows .mixedOrders = true := by kernel_rfl
  have HE1 := hid hE1
  have HE2 := hid hE2
  clear hE1 hE2
  go_enter Tryd.func6, Tryd.ntmps6
  go_wp2
  go_loopw [5] (fun i wr => ∃ k : Nat, k ≤ ss.length ∧ i = .int .i64 k ∧ Below w.heap.size w wr) (fun i _ => ss.length - (intOf i).toNat)
  case atStart => exact ⟨0, Nat.zero_le _, rfl, Below.refl _ _⟩
  case round =>
    obtain ⟨k, hk, rfl, hbel⟩ := hrel
    by_cases hlt : k < ss.length
    · have a0 := (HE1.out.stay hbel (Nat.le_refl _)).2 k hlt
      have b0 := (HE2.out.stay hbel (Nat.le_refl _)).2 k hlt
      generalize ss[k] = q4 at *
      have k0 := cell_regrown a0
      have l0 := cell_regrown b0
      clear a0 b0
      go_wp2
      refine wp_region_quiet_below mixed (by kernel_rfl) ?_
      repeat (quiet_step (fail))
      refine wpQuiet_nil ?_
      intro _ hw'
      obtain ⟨⟨dq, osq⟩, hw''⟩ := hw'
      subst hw''
      have hbX := hbel.trans ((below_regrown wr dq osq).mono hbel.size)
      clear k0 l0
      go_wp2
      go_roundw
      case rel => exact ⟨k + 1, by omega, by go_num, hbX⟩
      case measure => simp [intOf]; omega
    · go_wp2
      go_ret
      exact ⟨rfl, hbel⟩
theorem eqStringS_none (a1 a2 : Option Addr) (c1 c2 : Nat) (w : World) :
    Calls Tryd.prog 6 #[.slice a1 0 c1, .slice a2 0 c2] w fun e w' => e = .returned (.bool true) ∧ Below w.heap.size w w' := by
  go_enter Tryd.func6, Tryd.ntmps6
  go_wp2
  go_loop [5] (fun i => i = .int .i64 0) (fun _ => 0)
  case atStart => exact rfl
  case round =>
    subst hrel
    go_wp2
    go_ret
    exact ⟨rfl, Below.refl _ _⟩
theorem eqStringS_any (v1 v2 : Value) (ss : List ByteArray) (w : World) (h1 : StrSl w v1 ss) (h2 : StrSl w v2 ss) (hn : ss.length ≤ maxLen) :
    Calls Tryd.prog 6 #[v1, v2] w fun e w' => e = .returned (.bool true) ∧ Below w.heap.size w w' := by
  rcases h1 with ⟨a, c, rfl, rfl⟩ | ⟨g, o, c, rfl, hp, h⟩
  · rcases h2 with ⟨a', c', rfl, _⟩ | ⟨g', o', c', rfl, hp', h'⟩
    · exact eqStringS_none a a' c c' w
    · simp at hp'
  · rcases h2 with ⟨a', c', rfl, h0⟩ | ⟨g', o', c', rfl, hp', h'⟩
    · rw [h0] at hp; simp at hp
    · exact eqStringS_row g o c g' o' c' ss w h h' hn
end Go.Proofs.YtmkpmiepakhgpaaDoor
