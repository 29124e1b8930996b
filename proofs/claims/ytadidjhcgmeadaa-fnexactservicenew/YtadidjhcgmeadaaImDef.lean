/-
  What impl.twoAlike, impl.stepsRight, impl.flowsRight and impl.DefRight answer, for every Def: contracts over the seat's program.
-/
import Derived.Test.YtadidjhcgmeadaaAt
import Derived.Test.YtadidjhcgmeadaaPrIdx
import Derived.Test.YtadidjhcgmeadaaSpDef
namespace Go.Proofs.Ytadidjhcgmeadaa
open Go.RowKit Go.Sort

set_option maxRecDepth 100000 in
set_option maxHeartbeats 1000000 in
theorem twoS_row (g o c : Nat) (ss : List ByteArray) (w : World) (hE : StrsAt w g o ss) (hc : ss.length ≤ c) (hn : ss.length ≤ maxLen) :
    Calls Try.prog 41 #[.slice (some ⟨g, o, none⟩) ss.length c] w fun e w' => RetB e (¬ ss.Nodup) ∧ w' = w := by
  have HN := hid hn
  unfold maxLen at hn
  have HE := hid hE
  clear hE
  go_enter Try.func41, Try.ntmps41
  go_wp2
  go_loop [7] (fun i => ∃ k : Nat, k ≤ ss.length ∧ i = .int .i64 k ∧ ∀ j, j < k → (h : j < ss.length) → ss[j] ∉ ss.take j) (fun i => ss.length - (intOf i).toNat)
  case atStart => exact ⟨0, Nat.zero_le _, rfl, fun j hj => absurd hj (by omega)⟩
  case round =>
    obtain ⟨k, hk, rfl, hall⟩ := hrel
    have HA := hid hall
    clear hall
    by_cases hlt : k < ss.length
    · have c0 := HE.out.2 k hlt
      have hcap : k ≤ c := by omega
      have cA : Calls Try.prog 44 #[.slice (some ⟨g, o, none⟩) k c, .string ss[k]] w fun e w' => e = .returned (.bool (inB (ss.take k) ss[k])) ∧ w' = w := hasS_any _ (ss.take k) ss[k] w (StrSl.part (n := ss.length) (.inr ⟨g, o, c, rfl, ⟨by omega, hc⟩, HE.out⟩) (by omega)) (by rw [List.length_take]; have := HN.out; omega)
      by_cases hm : ss[k] ∈ ss.take k
      · rw [inB_yes hm] at cA
        have HM := hid (twice_of_take hlt hm)
        clear hm
        go_wp2_with fail
        refine cA.mono ?_
        rintro e w1 ⟨rfl, rfl⟩
        go_wp2
        go_ret
        exact ⟨retB_t HM.out, rfl⟩
      · rw [inB_no hm] at cA
        have HM := hid hm
        clear hm
        go_wp2_with fail
        refine cA.mono ?_
        rintro e w1 ⟨rfl, rfl⟩
        go_wp2
        go_round
        case rel => exact ⟨k + 1, by omega, by go_num, fun j hj h => by
          by_cases e : j = k
          · subst e; exact HM.out
          · exact HA.out j (by omega) h⟩
        case measure => simp [intOf]; omega
    · have HF := hid (nodup_of_take (fun i h => HA.out i (by omega) h))
      go_wp2
      go_ret
      exact ⟨retB_f (fun h => h HF.out), rfl⟩
theorem twoS_none (a : Option Addr) (c : Nat) (w : World) :
    Calls Try.prog 41 #[.slice a 0 c] w fun e w' => e = .returned (.bool false) ∧ w' = w := by
  go_enter Try.func41, Try.ntmps41
  go_wp2
  go_loop [7] (fun i => i = .int .i64 0) (fun _ => 0)
  case atStart => exact rfl
  case round =>
    subst hrel
    go_wp2
    go_ret
    exact ⟨rfl, rfl⟩
theorem twoS_any (v : Value) (ss : List ByteArray) (w : World) (h : StrSl w v ss) (hn : ss.length ≤ maxLen) :
    Calls Try.prog 41 #[v] w fun e w' => RetB e (¬ ss.Nodup) ∧ w' = w := by
  rcases h with ⟨a, c, rfl, rfl⟩ | ⟨g, o, c, rfl, hp, h⟩
  · refine (twoS_none a c w).mono ?_
    rintro e w' ⟨rfl, rfl⟩
    exact ⟨retB_f (fun h => h List.nodup_nil), rfl⟩
  · exact twoS_row g o c ss w h hp.2 hn

set_option maxRecDepth 100000 in
set_option maxHeartbeats 1000000 in
theorem twoP_row (g o c : Nat) (ps : List Pr) (w : World) (hE : PrsAt w g o ps) (hc : ps.length ≤ c) (hn : ps.length ≤ maxLen) :
    Calls Try.prog 43 #[.slice (some ⟨g, o, none⟩) ps.length c] w fun e w' => RetB e (¬ ps.Nodup) ∧ Below w.heap.size w w' := by
  have mixed : Try.prog.follows .mixedOrders = true := by kernel_rfl
  have HN := hid hn
  unfold maxLen at hn
  have HE := hid hE
  clear hE
  go_enter Try.func43, Try.ntmps43
  go_wp2
  go_loopw [7] (fun i wr => ∃ k : Nat, k ≤ ps.length ∧ i = .int .i64 k ∧ (∀ j, j < k → (h : j < ps.length) → ps[j] ∉ ps.take j) ∧ Below w.heap.size w wr) (fun i _ => ps.length - (intOf i).toNat)
  case atStart => exact ⟨0, Nat.zero_le _, rfl, fun j hj => absurd hj (by omega), Below.refl _ _⟩
  case round =>
    obtain ⟨k, hk, rfl, hall, hbel⟩ := hrel
    have HA := hid hall
    clear hall
    by_cases hlt : k < ps.length
    · obtain ⟨c0, c1⟩ := (HE.out.stay hbel (Nat.le_refl _)).2 k hlt
      have hcap : k ≤ c := by omega
      have hbW : Below w.heap.size w (wr.alloc (.cells #[.string ps[k].fst, .string ps[k].snd] 57)) := hbel.alloc hbel.size _
      have cA := fun d os => hasP_any _ (ps.take k) ps[k].fst ps[k].snd _ (PrSl.stay (PrSl.part (n := ps.length) (k := k) (.inr ⟨g, o, c, rfl, ⟨by omega, hc⟩, HE.out.stay hbW (Nat.le_refl _)⟩) (by omega)) (below_regrown _ d os) (Nat.le_refl _)) (by rw [List.length_take]; have := HN.out; omega)
      by_cases hm : ps[k] ∈ ps.take k
      · have HM := hid (twice_of_take hlt hm)
        replace cA := fun d os => calls_yes (cA d os) hm
        generalize ps[k].fst = q1 at *
        generalize ps[k].snd = q2 at *
        clear hm
        go_wp2
        have z0 : (wr.alloc (.cells #[.string q1, .string q2] 57)).cell? ⟨wr.heap.size, 0, none⟩ = some (.string q1) := by simp [go_sem]
        have z1 : (wr.alloc (.cells #[.string q1, .string q2] 57)).cell? ⟨wr.heap.size, 1, none⟩ = some (.string q2) := by simp [go_sem]
        generalize wr.alloc (.cells #[.string q1, .string q2] 57) = W at *
        have z0' := cell_regrown z0
        have z1' := cell_regrown z1
        have d1 := fun d os => Calls.regrown_of (w := W) (d := d) (os := os) (cA d os)
        clear c0 c1 z0 z1 cA
        refine wp_region_quiet_below mixed (by kernel_rfl) ?_
        repeat (go_big_quiet_step ((go_at_call 48; exact d1 _ _)))
        refine wpQuiet_nil ?_
        intro _ hw'
        obtain ⟨⟨dq, osq⟩, hw''⟩ := hw'
        subst hw''
        have hbX := hbW.trans ((below_regrown W dq osq).mono hbW.size)
        clear z0' z1' d1
        go_wp2
        go_ret
        exact ⟨retB_t HM.out, hbX⟩
      · have HM := hid hm
        replace cA := fun d os => calls_no (cA d os) hm
        generalize ps[k].fst = q1 at *
        generalize ps[k].snd = q2 at *
        clear hm
        go_wp2
        have z0 : (wr.alloc (.cells #[.string q1, .string q2] 57)).cell? ⟨wr.heap.size, 0, none⟩ = some (.string q1) := by simp [go_sem]
        have z1 : (wr.alloc (.cells #[.string q1, .string q2] 57)).cell? ⟨wr.heap.size, 1, none⟩ = some (.string q2) := by simp [go_sem]
        generalize wr.alloc (.cells #[.string q1, .string q2] 57) = W at *
        have z0' := cell_regrown z0
        have z1' := cell_regrown z1
        have d1 := fun d os => Calls.regrown_of (w := W) (d := d) (os := os) (cA d os)
        clear c0 c1 z0 z1 cA
        refine wp_region_quiet_below mixed (by kernel_rfl) ?_
        repeat (go_big_quiet_step ((go_at_call 48; exact d1 _ _)))
        refine wpQuiet_nil ?_
        intro _ hw'
        obtain ⟨⟨dq, osq⟩, hw''⟩ := hw'
        subst hw''
        have hbX := hbW.trans ((below_regrown W dq osq).mono hbW.size)
        clear z0' z1' d1
        go_wp2
        go_roundw
        case rel => exact ⟨k + 1, by omega, by go_num, fun j hj h => by
          by_cases e : j = k
          · subst e; exact HM.out
          · exact HA.out j (by omega) h, hbX⟩
        case measure => simp [intOf]; omega
    · have HF := hid (nodup_of_take (fun i h => HA.out i (by omega) h))
      go_wp2
      go_ret
      exact ⟨retB_f (fun h => h HF.out), hbel⟩
theorem twoP_none (a : Option Addr) (c : Nat) (w : World) :
    Calls Try.prog 43 #[.slice a 0 c] w fun e w' => e = .returned (.bool false) ∧ w' = w := by
  go_enter Try.func43, Try.ntmps43
  go_wp2
  go_loop [7] (fun i => i = .int .i64 0) (fun _ => 0)
  case atStart => exact rfl
  case round =>
    subst hrel
    go_wp2
    go_ret
    exact ⟨rfl, rfl⟩
theorem twoP_any (v : Value) (ps : List Pr) (w : World) (h : PrSl w v ps) (hn : ps.length ≤ maxLen) :
    Calls Try.prog 43 #[v] w fun e w' => RetB e (¬ ps.Nodup) ∧ Below w.heap.size w w' := by
  rcases h with ⟨a, c, rfl, rfl⟩ | ⟨g, o, c, rfl, hp, h⟩
  · refine (twoP_none a c w).mono ?_
    rintro e w' ⟨rfl, rfl⟩
    exact ⟨retB_f (fun h => h List.nodup_nil), Below.refl _ _⟩
  · exact twoP_row g o c ps w h hp.2 hn
end Go.Proofs.Ytadidjhcgmeadaa
