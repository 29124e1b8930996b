/-
  Texts put together: PrIdx, ImDef.
-/
import Derived.Test.YtadidjhcgmeadaaGreatDoorZDfMath4
import Derived.Lib.QuietBelow
import Derived.Laws.StructEq
import Derived.Test.YtadidjhcgmeadaaGreatDoorZIsErr3
import Derived.Test.YtadidjhcgmeadaaGreatDoorZSpDef
/-
  What slices.Index and slices.Contains answer at a row of flows: contracts over the seat's program.
-/
namespace Go.Proofs.YtadidjhcgmeadaaGreatDoor
open Go.RowKit Go.Sort

set_option maxRecDepth 100000 in
set_option maxHeartbeats 1000000 in
theorem idxP_row (g o c : Nat) (ps : List Pr) (x y : ByteArray) (w : World) (hE : PrsAt w g o ps) (hn : ps.length ≤ maxLen) :
    Calls Tryz.prog 150 #[.slice (some ⟨g, o, none⟩) ps.length c, .agg #[.string x, .string y]] w fun e w' => ∃ I : Int, e = .returned (.int .i64 I) ∧ (0 ≤ I ↔ (⟨x, y⟩ : Pr) ∈ ps) ∧ Below w.heap.size w w' := by
  unfold maxLen at hn
  have mixed : Tryz.prog.follows .mixedOrders = true := by kernel_rfl
  have HE := hid hE
  clear hE
  go_enter Tryz.func150, Tryz.ntmps150
  go_wp2
  go_loopw [8] (fun i wr => ∃ k : Nat, k ≤ ps.length ∧ i = .int .i64 k ∧ (∀ j, j < k → (h : j < ps.length) → ps[j] ≠ ⟨x, y⟩) ∧ Below (w.heap.size + 1) (w.alloc (.cells #[.string x, .string y] 114)) wr) (fun i _ => ps.length - (intOf i).toNat)
  case atStart => exact ⟨0, Nat.zero_le _, rfl, fun j hj => absurd hj (by omega), Below.refl _ _⟩
  case round =>
    obtain ⟨k, hk, rfl, hall, hbel⟩ := hrel
    have HA := hid hall
    clear hall
    have hbw : Below w.heap.size w wr := ((Below.refl w.heap.size w).alloc (Nat.le_refl _) _).trans (hbel.mono (by omega))
    by_cases hlt : k < ps.length
    · obtain ⟨c0, c1⟩ := (HE.out.stay hbw (Nat.le_refl _)).2 k hlt
      have b0 : wr.cell? ⟨w.heap.size, 0, none⟩ = some (.string x) := by rw [hbel.cell (p := ⟨w.heap.size, 0, none⟩) (Nat.lt_succ_self _)]; simp [go_sem]
      have b1 : wr.cell? ⟨w.heap.size, 1, none⟩ = some (.string y) := by rw [hbel.cell (p := ⟨w.heap.size, 1, none⟩) (Nat.lt_succ_self _)]; simp [go_sem]
      by_cases he : ps[k].fst = x
      · by_cases he2 : ps[k].snd = y
        · have HM := hid (show (⟨x, y⟩ : Pr) ∈ ps from (show ps[k] = ⟨x, y⟩ from pr_ext he he2) ▸ List.getElem_mem hlt)
          rw [he] at c0
          rw [he2] at c1
          clear he he2
          have k0 := cell_regrown c0
          have k1 := cell_regrown c1
          have l0 := cell_regrown b0
          have l1 := cell_regrown b1
          clear c0 c1 b0 b1
          go_wp2
          refine wp_region_quiet_below mixed (by kernel_rfl) ?_
          repeat (quiet_step (fail))
          refine wpQuiet_nil ?_
          intro _ hw'
          obtain ⟨⟨dq, osq⟩, hw''⟩ := hw'
          subst hw''
          have hbX := hbel.trans ((below_regrown wr dq osq).mono (by have := hbel.size; simpa using this))
          have hbY := hbw.trans ((below_regrown wr dq osq).mono hbw.size)
          clear k0 k1 l0 l1
          go_wp2
          go_ret
          exact ⟨k, rfl, ⟨fun _ => HM.out, fun _ => by omega⟩, hbY⟩
        · have HO := hid (ne_step (hk := hlt) HA.out (fun e => he2 (congrArg Pr.snd e)))
          have hne := str_ne (fun e => he2 e.symm)
          rw [he] at c0
          generalize ps[k].snd = q2 at *
          clear he he2
          have k0 := cell_regrown c0
          have k1 := cell_regrown c1
          have l0 := cell_regrown b0
          have l1 := cell_regrown b1
          clear c0 c1 b0 b1
          go_wp2
          refine wp_region_quiet_below mixed (by kernel_rfl) ?_
          repeat (quiet_step (fail))
          refine wpQuiet_nil ?_
          intro _ hw'
          obtain ⟨⟨dq, osq⟩, hw''⟩ := hw'
          subst hw''
          have hbX := hbel.trans ((below_regrown wr dq osq).mono (by have := hbel.size; simpa using this))
          have hbY := hbw.trans ((below_regrown wr dq osq).mono hbw.size)
          clear k0 k1 l0 l1
          go_wp2
          go_roundw
          case rel => exact ⟨k + 1, by omega, by go_num, HO.out, hbX⟩
          case measure => simp [intOf]; omega
      · have HO := hid (ne_step (hk := hlt) HA.out (fun e => he (congrArg Pr.fst e)))
        have hne := str_ne (fun e => he e.symm)
        generalize ps[k].fst = q1 at *
        generalize ps[k].snd = q2 at *
        clear he
        have k0 := cell_regrown c0
        have k1 := cell_regrown c1
        have l0 := cell_regrown b0
        have l1 := cell_regrown b1
        clear c0 c1 b0 b1
        go_wp2
        refine wp_region_quiet_below mixed (by kernel_rfl) ?_
        repeat (quiet_step (fail))
        refine wpQuiet_nil ?_
        intro _ hw'
        obtain ⟨⟨dq, osq⟩, hw''⟩ := hw'
        subst hw''
        have hbX := hbel.trans ((below_regrown wr dq osq).mono (by have := hbel.size; simpa using this))
        have hbY := hbw.trans ((below_regrown wr dq osq).mono hbw.size)
        clear k0 k1 l0 l1
        go_wp2
        go_roundw
        case rel => exact ⟨k + 1, by omega, by go_num, HO.out, hbX⟩
        case measure => simp [intOf]; omega
    · have HF := hid (ne_all HA.out (by omega))
      go_wp2
      go_ret
      exact ⟨-1, rfl, ⟨fun e => absurd e (by decide), fun e => absurd e HF.out⟩, hbw⟩
theorem idxP_none (a : Option Addr) (c : Nat) (x y : ByteArray) (w : World) :
    Calls Tryz.prog 150 #[.slice a 0 c, .agg #[.string x, .string y]] w fun e w' => ∃ I : Int, e = .returned (.int .i64 I) ∧ (0 ≤ I ↔ (⟨x, y⟩ : Pr) ∈ ([] : List Pr)) ∧ Below w.heap.size w w' := by
  go_enter Tryz.func150, Tryz.ntmps150
  go_wp2
  go_loop [8] (fun i => i = .int .i64 0) (fun _ => 0)
  case atStart => exact rfl
  case round =>
    subst hrel
    go_wp2
    go_ret
    exact ⟨(-1 : Int), rfl, by first | decide | simp, (Below.refl _ _).alloc (Nat.le_refl _) _⟩
theorem idxP_any (v : Value) (ps : List Pr) (x y : ByteArray) (w : World) (h : PrSl w v ps) (hn : ps.length ≤ maxLen) :
    Calls Tryz.prog 150 #[v, .agg #[.string x, .string y]] w fun e w' => ∃ I : Int, e = .returned (.int .i64 I) ∧ (0 ≤ I ↔ (⟨x, y⟩ : Pr) ∈ ps) ∧ Below w.heap.size w w' := by
  rcases h with ⟨a, c, rfl, rfl⟩ | ⟨g, o, c, rfl, _, h⟩
  · exact idxP_none a c x y w
  · exact idxP_row g o c ps x y w h hn
set_option maxRecDepth 100000 in
theorem hasP_any (v : Value) (ps : List Pr) (x y : ByteArray) (w : World) (h : PrSl w v ps) (hn : ps.length ≤ maxLen) :
    Calls Tryz.prog 126 #[v, .agg #[.string x, .string y]] w fun e w' => RetB e ((⟨x, y⟩ : Pr) ∈ ps) ∧ Below w.heap.size w w' := by
  obtain ⟨a, c, rfl⟩ := h.form
  have HE := hid h
  have HN := hid hn
  clear h hn
  go_enter Tryz.func126, Tryz.ntmps126
  go_wp2_with fail
  refine (idxP_any _ ps x y _ (HE.out.stay ((Below.refl w.heap.size w).alloc (Nat.le_refl _) _) (Nat.le_refl _)) HN.out).mono ?_
  rintro e w1 ⟨I, rfl, hI, hb1⟩
  have HI := hid hI
  have hbA : Below w.heap.size w w1 := ((Below.refl w.heap.size w).alloc (Nat.le_refl _) _).trans (hb1.mono (B' := w.heap.size) (by simp))
  clear hI hb1
  go_wp2
  go_ret
  exact ⟨⟨decide (0 ≤ I), rfl, ⟨fun e => HI.out.1 (of_decide_eq_true e), fun e => decide_eq_true (HI.out.2 e)⟩⟩, hbA⟩
end Go.Proofs.YtadidjhcgmeadaaGreatDoor

/-
  What impl.twoAlike, impl.stepsRight, impl.flowsRight and impl.DefRight answer, for every Def: contracts over the seat's program.
-/
namespace Go.Proofs.YtadidjhcgmeadaaGreatDoor
open Go.RowKit Go.Sort

set_option maxRecDepth 100000 in
set_option maxHeartbeats 1000000 in
theorem twoS_row (g o c : Nat) (ss : List ByteArray) (w : World) (hE : StrsAt w g o ss) (hc : ss.length ≤ c) (hn : ss.length ≤ maxLen) :
    Calls Tryz.prog 106 #[.slice (some ⟨g, o, none⟩) ss.length c] w fun e w' => RetB e (¬ ss.Nodup) ∧ w' = w := by
  have HN := hid hn
  unfold maxLen at hn
  have HE := hid hE
  clear hE
  go_enter Tryz.func106, Tryz.ntmps106
  go_wp2
  go_loop [7] (fun i => ∃ k : Nat, k ≤ ss.length ∧ i = .int .i64 k ∧ ∀ j, j < k → (h : j < ss.length) → ss[j] ∉ ss.take j) (fun i => ss.length - (intOf i).toNat)
  case atStart => exact ⟨0, Nat.zero_le _, rfl, fun j hj => absurd hj (by omega)⟩
  case round =>
    obtain ⟨k, hk, rfl, hall⟩ := hrel
    have HA := hid hall
    clear hall
    by_cases hlt : k < ss.length
    · have c0 := HE.out.2 k hlt
      have hcap : k ≤ c := by omega
      have cA : Calls Tryz.prog 109 #[.slice (some ⟨g, o, none⟩) k c, .string ss[k]] w fun e w' => e = .returned (.bool (inB (ss.take k) ss[k])) ∧ w' = w := hasS_any _ (ss.take k) ss[k] w (StrSl.part (n := ss.length) (.inr ⟨g, o, c, rfl, ⟨by omega, hc⟩, HE.out⟩) (by omega)) (by rw [List.length_take]; have := HN.out; omega)
      by_cases hm : ss[k] ∈ ss.take k
      · rw [inB_yes hm] at cA
        have HM := hid (twice_of_take hlt hm)
        clear hm
        go_wp2_with fail
        refine cA.mono ?_
        rintro e w1 ⟨rfl, rfl⟩
        go_wp2
        go_ret
        exact ⟨retB_t HM.out, rfl⟩
      · rw [inB_no hm] at cA
        have HM := hid hm
        clear hm
        go_wp2_with fail
        refine cA.mono ?_
        rintro e w1 ⟨rfl, rfl⟩
        go_wp2
        go_round
        case rel => exact ⟨k + 1, by omega, by go_num, fun j hj h => by
          by_cases e : j = k
          · subst e; exact HM.out
          · exact HA.out j (by omega) h⟩
        case measure => simp [intOf]; omega
    · have HF := hid (nodup_of_take (fun i h => HA.out i (by omega) h))
      go_wp2
      go_ret
      exact ⟨retB_f (fun h => h HF.out), rfl⟩
theorem twoS_none (a : Option Addr) (c : Nat) (w : World) :
    Calls Tryz.prog 106 #[.slice a 0 c] w fun e w' => e = .returned (.bool false) ∧ w' = w := by
  go_enter Tryz.func106, Tryz.ntmps106
  go_wp2
  go_loop [7] (fun i => i = .int .i64 0) (fun _ => 0)
  case atStart => exact rfl
  case round =>
    subst hrel
    go_wp2
    go_ret
    exact ⟨rfl, rfl⟩
theorem twoS_any (v : Value) (ss : List ByteArray) (w : World) (h : StrSl w v ss) (hn : ss.length ≤ maxLen) :
    Calls Tryz.prog 106 #[v] w fun e w' => RetB e (¬ ss.Nodup) ∧ w' = w := by
  rcases h with ⟨a, c, rfl, rfl⟩ | ⟨g, o, c, rfl, hp, h⟩
  · refine (twoS_none a c w).mono ?_
    rintro e w' ⟨rfl, rfl⟩
    exact ⟨retB_f (fun h => h List.nodup_nil), rfl⟩
  · exact twoS_row g o c ss w h hp.2 hn

set_option maxRecDepth 100000 in
set_option maxHeartbeats 1000000 in
theorem twoP_row (g o c : Nat) (ps : List Pr) (w : World) (hE : PrsAt w g o ps) (hc : ps.length ≤ c) (hn : ps.length ≤ maxLen) :
    Calls Tryz.prog 108 #[.slice (some ⟨g, o, none⟩) ps.length c] w fun e w' => RetB e (¬ ps.Nodup) ∧ Below w.heap.size w w' := by
  have mixed : Tryz.prog.follows .mixedOrders = true := by kernel_rfl
  have HN := hid hn
  unfold maxLen at hn
  have HE := hid hE
  clear hE
  go_enter Tryz.func108, Tryz.ntmps108
  go_wp2
  go_loopw [7] (fun i wr => ∃ k : Nat, k ≤ ps.length ∧ i = .int .i64 k ∧ (∀ j, j < k → (h : j < ps.length) → ps[j] ∉ ps.take j) ∧ Below w.heap.size w wr) (fun i _ => ps.length - (intOf i).toNat)
  case atStart => exact ⟨0, Nat.zero_le _, rfl, fun j hj => absurd hj (by omega), Below.refl _ _⟩
  case round =>
    obtain ⟨k, hk, rfl, hall, hbel⟩ := hrel
    have HA := hid hall
    clear hall
    by_cases hlt : k < ps.length
    · obtain ⟨c0, c1⟩ := (HE.out.stay hbel (Nat.le_refl _)).2 k hlt
      have hcap : k ≤ c := by omega
      have hbW : Below w.heap.size w (wr.alloc (.cells #[.string ps[k].fst, .string ps[k].snd] 114)) := hbel.alloc hbel.size _
      have cA := fun d os => hasP_any _ (ps.take k) ps[k].fst ps[k].snd _ (PrSl.stay (PrSl.part (n := ps.length) (k := k) (.inr ⟨g, o, c, rfl, ⟨by omega, hc⟩, HE.out.stay hbW (Nat.le_refl _)⟩) (by omega)) (below_regrown _ d os) (Nat.le_refl _)) (by rw [List.length_take]; have := HN.out; omega)
      by_cases hm : ps[k] ∈ ps.take k
      · have HM := hid (twice_of_take hlt hm)
        replace cA := fun d os => calls_yes (cA d os) hm
        generalize ps[k].fst = q1 at *
        generalize ps[k].snd = q2 at *
        clear hm
        go_wp2
        have z0 : (wr.alloc (.cells #[.string q1, .string q2] 114)).cell? ⟨wr.heap.size, 0, none⟩ = some (.string q1) := by simp [go_sem]
        have z1 : (wr.alloc (.cells #[.string q1, .string q2] 114)).cell? ⟨wr.heap.size, 1, none⟩ = some (.string q2) := by simp [go_sem]
        generalize wr.alloc (.cells #[.string q1, .string q2] 114) = W at *
        have z0' := cell_regrown z0
        have z1' := cell_regrown z1
        have d1 := fun d os => Calls.regrown_of (w := W) (d := d) (os := os) (cA d os)
        clear c0 c1 z0 z1 cA
        refine wp_region_quiet_below mixed (by kernel_rfl) ?_
        repeat (go_big_quiet_step ((go_at_call 126; exact d1 _ _)))
        refine wpQuiet_nil ?_
        intro _ hw'
        obtain ⟨⟨dq, osq⟩, hw''⟩ := hw'
        subst hw''
        have hbX := hbW.trans ((below_regrown W dq osq).mono hbW.size)
        clear z0' z1' d1
        go_wp2
        go_ret
        exact ⟨retB_t HM.out, hbX⟩
      · have HM := hid hm
        replace cA := fun d os => calls_no (cA d os) hm
        generalize ps[k].fst = q1 at *
        generalize ps[k].snd = q2 at *
        clear hm
        go_wp2
        have z0 : (wr.alloc (.cells #[.string q1, .string q2] 114)).cell? ⟨wr.heap.size, 0, none⟩ = some (.string q1) := by simp [go_sem]
        have z1 : (wr.alloc (.cells #[.string q1, .string q2] 114)).cell? ⟨wr.heap.size, 1, none⟩ = some (.string q2) := by simp [go_sem]
        generalize wr.alloc (.cells #[.string q1, .string q2] 114) = W at *
        have z0' := cell_regrown z0
        have z1' := cell_regrown z1
        have d1 := fun d os => Calls.regrown_of (w := W) (d := d) (os := os) (cA d os)
        clear c0 c1 z0 z1 cA
        refine wp_region_quiet_below mixed (by kernel_rfl) ?_
        repeat (go_big_quiet_step ((go_at_call 126; exact d1 _ _)))
        refine wpQuiet_nil ?_
        intro _ hw'
        obtain ⟨⟨dq, osq⟩, hw''⟩ := hw'
        subst hw''
        have hbX := hbW.trans ((below_regrown W dq osq).mono hbW.size)
        clear z0' z1' d1
        go_wp2
        go_roundw
        case rel => exact ⟨k + 1, by omega, by go_num, fun j hj h => by
          by_cases e : j = k
          · subst e; exact HM.out
          · exact HA.out j (by omega) h, hbX⟩
        case measure => simp [intOf]; omega
    · have HF := hid (nodup_of_take (fun i h => HA.out i (by omega) h))
      go_wp2
      go_ret
      exact ⟨retB_f (fun h => h HF.out), hbel⟩
theorem twoP_none (a : Option Addr) (c : Nat) (w : World) :
    Calls Tryz.prog 108 #[.slice a 0 c] w fun e w' => e = .returned (.bool false) ∧ w' = w := by
  go_enter Tryz.func108, Tryz.ntmps108
  go_wp2
  go_loop [7] (fun i => i = .int .i64 0) (fun _ => 0)
  case atStart => exact rfl
  case round =>
    subst hrel
    go_wp2
    go_ret
    exact ⟨rfl, rfl⟩
theorem twoP_any (v : Value) (ps : List Pr) (w : World) (h : PrSl w v ps) (hn : ps.length ≤ maxLen) :
    Calls Tryz.prog 108 #[v] w fun e w' => RetB e (¬ ps.Nodup) ∧ Below w.heap.size w w' := by
  rcases h with ⟨a, c, rfl, rfl⟩ | ⟨g, o, c, rfl, hp, h⟩
  · refine (twoP_none a c w).mono ?_
    rintro e w' ⟨rfl, rfl⟩
    exact ⟨retB_f (fun h => h List.nodup_nil), Below.refl _ _⟩
  · exact twoP_row g o c ps w h hp.2 hn
end Go.Proofs.YtadidjhcgmeadaaGreatDoor
