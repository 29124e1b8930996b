/-
  What impl.varsRight answers, for every row of vars: a contract over the seat's program.
-/
import Derived.Test.YtmffliikenimnaaStMath
import Derived.Test.YtmffliikenimnaaSpDef
namespace Go.Proofs.Ytmffliikenimnaa
open Go.RowKit Go.Sort

set_option maxRecDepth 100000 in
set_option maxHeartbeats 2000000 in
theorem varsRight_any (a5 : Option Addr) (c : Nat) (l : List Pr) (w : World) (hE : PrSl w (.slice a5 l.length c) l) (hF : FitP l) (n2 : l.length ≤ maxLen) :
    Calls Try.prog 45 #[.slice a5 l.length c] w fun e w' => RetB e (VarsP l) ∧ Below w.heap.size w w' := by
  have mixed : Try.prog.follows .mixedOrders = true := by kernel_rfl
  have HE := hid hE
  unfold maxLen at n2
  clear hE
  by_cases h20 : 20 < l.length
  · go_enter Try.func45, Try.ntmps45
    go_wp2
    go_ret
    exact ⟨retB_f (fun D => by have := D.n; omega), Below.refl _ _⟩
  · go_enter Try.func45, Try.ntmps45
    go_wp2
    go_loopw [10] (fun i wr => ∃ k : Nat, k ≤ l.length ∧ i = .int .i64 k ∧ (∀ j, j < k → (h : j < l.length) → nrB l[j].fst = true ∧ l[j].snd.size ≤ 40) ∧ (∀ j, j + 1 < k → (h : j + 1 < l.length) → lt l[j].fst l[j + 1].fst = true) ∧ Below w.heap.size w wr) (fun i _ => l.length - (intOf i).toNat)
    case atStart => exact ⟨0, Nat.zero_le _, rfl, fun j hj => absurd hj (by omega), fun j hj => absurd hj (by omega), Below.refl _ _⟩
    case round =>
      obtain ⟨k, hk, rfl, hall, hsrt, hbel⟩ := hrel
      have HA := hid hall
      have HS := hid hsrt
      clear hall hsrt
      by_cases hlt : k < l.length
      · obtain ⟨g, o, rfl, hQ⟩ := HE.out.row (by omega)
        obtain ⟨c0, c1⟩ := (hQ.stay hbel (Nat.le_refl _)).2 k hlt
        have HQ := hid hQ
        have hf := hF k hlt
        have cN := fun W => calls_below (implNameRight_any l[k].fst W hf.1)
        have hf2 := hf.2
        unfold maxLen at hf2
        clear hf hQ
        cases hr : nrB l[k].fst with
        | false =>
          rw [hr] at cN
          have HM := hid (show ¬ VarsP l from fun D => by have := (D.nm k hlt).1; rw [hr] at this; cases this)
          clear hr
          generalize l[k].fst = q1 at *
          generalize l[k].snd = q2 at *
          have hbW : Below w.heap.size w (wr.alloc (.cells #[.string q1, .string q2] 73)) := hbel.alloc hbel.size _
          have z0 : (wr.alloc (.cells #[.string q1, .string q2] 73)).cell? ⟨wr.heap.size, 0, none⟩ = some (.string q1) := by simp [go_sem]
          have z1 : (wr.alloc (.cells #[.string q1, .string q2] 73)).cell? ⟨wr.heap.size, 1, none⟩ = some (.string q2) := by simp [go_sem]
          go_wp2
          generalize wr.alloc (.cells #[.string q1, .string q2] 73) = WW at *
          have z0' := cell_regrown z0
          have z1' := cell_regrown z1
          have d1 := fun d os => Calls.regrown_of (w := WW) (d := d) (os := os) (cN _)
          clear c0 c1 z0 z1 cN
          refine wp_region_quiet_below mixed (by kernel_rfl) ?_
          repeat (go_big_quiet_step ((go_at_call 34; exact d1 _ _)))
          refine wpQuiet_nil ?_
          intro _ hw'
          obtain ⟨⟨dq, osq⟩, hw''⟩ := hw'
          subst hw''
          have hbX := hbW.trans ((below_regrown WW dq osq).mono hbW.size)
          clear z0' z1' d1
          go_wp2
          go_ret
          exact ⟨retB_f HM.out, hbX⟩
        | true =>
          rw [hr] at cN
          have HR := hid hr
          clear hr
          by_cases h40 : l[k].snd.size ≤ 40
          · have h41 : decide (40 < (l[k].snd.size : Int)) = false := by simp; omega
            have HV := hid h40
            by_cases hk0 : k = 0
            · subst hk0
              simp only [Nat.zero_mul, Nat.add_zero] at c0 c1
              have HR0 := hid (show nrB l[0].fst = true ∧ l[0].snd.size ≤ 40 from ⟨HR.out, HV.out⟩)
              clear HR HV h40
              have HR1 := hid (show ∀ j, j < 1 → (h : j < l.length) → nrB l[j].fst = true ∧ l[j].snd.size ≤ 40 from fun j hj h => by
                obtain rfl : j = 0 := by omega
                exact HR0.out)
              clear HR0
              generalize l[0].fst = q1 at *
              generalize l[0].snd = q2 at *
              have hbW : Below w.heap.size w (wr.alloc (.cells #[.string q1, .string q2] 73)) := hbel.alloc hbel.size _
              have z0 : (wr.alloc (.cells #[.string q1, .string q2] 73)).cell? ⟨wr.heap.size, 0, none⟩ = some (.string q1) := by simp [go_sem]
              have z1 : (wr.alloc (.cells #[.string q1, .string q2] 73)).cell? ⟨wr.heap.size, 1, none⟩ = some (.string q2) := by simp [go_sem]
              go_wp2
              generalize wr.alloc (.cells #[.string q1, .string q2] 73) = WW at *
              have z0' := cell_regrown z0
              have z1' := cell_regrown z1
              have d1 := fun d os => Calls.regrown_of (w := WW) (d := d) (os := os) (cN _)
              clear c0 c1 z0 z1 cN
              refine wp_region_quiet_below mixed (by kernel_rfl) ?_
              repeat (go_big_quiet_step ((go_at_call 34; exact d1 _ _)))
              refine wpQuiet_nil ?_
              intro _ hw'
              obtain ⟨⟨dq, osq⟩, hw''⟩ := hw'
              subst hw''
              have hbX := hbW.trans ((below_regrown WW dq osq).mono hbW.size)
              clear z0' z1' d1
              go_wp2
              go_roundw
              case rel => exact ⟨1, by omega, by go_num, HR1.out, fun j hj h => by omega, hbX⟩
              case measure => simp [intOf]; omega
            · obtain ⟨m, rfl⟩ : ∃ m, k = m + 1 := ⟨k - 1, by omega⟩
              have hlm : m < l.length := by omega
              clear hk0
              cases hg : lt l[m].fst l[m + 1].fst with
              | false =>
                have HG := hid (show ¬ VarsP l from fun D => by have := D.rise m hlt; rw [hg] at this; cases this)
                have hq : Op.bytesLess l[m].fst.toList l[m + 1].fst.toList = false := hg
                have HP := hid (fun W (hb : Below w.heap.size w W) => ((HQ.out.stay hb (Nat.le_refl _)).2 m hlm).c0)
                clear hg
                generalize l[m].fst = t0 at *
                generalize l[m + 1].fst = q1 at *
                generalize l[m + 1].snd = q2 at *
                have hbW : Below w.heap.size w (wr.alloc (.cells #[.string q1, .string q2] 73)) := hbel.alloc hbel.size _
                have z0 : (wr.alloc (.cells #[.string q1, .string q2] 73)).cell? ⟨wr.heap.size, 0, none⟩ = some (.string q1) := by simp [go_sem]
                have z1 : (wr.alloc (.cells #[.string q1, .string q2] 73)).cell? ⟨wr.heap.size, 1, none⟩ = some (.string q2) := by simp [go_sem]
                have p0 := HP.out _ hbW
                go_wp2
                generalize wr.alloc (.cells #[.string q1, .string q2] 73) = WW at *
                have z0' := cell_regrown z0
                have z1' := cell_regrown z1
                have p0' := cell_regrown p0
                have d1 := fun d os => Calls.regrown_of (w := WW) (d := d) (os := os) (cN _)
                clear c0 c1 z0 z1 p0 cN
                refine wp_region_quiet_below mixed (by kernel_rfl) ?_
                repeat (go_big_quiet_step ((go_at_call 34; exact d1 _ _)))
                refine wpQuiet_nil ?_
                intro _ hw'
                obtain ⟨⟨dq, osq⟩, hw''⟩ := hw'
                subst hw''
                have hbX := hbW.trans ((below_regrown WW dq osq).mono hbW.size)
                clear z0' z1' p0' d1
                go_wp2
                go_ret
                exact ⟨retB_f HG.out, hbX⟩
              | true =>
                have HR2 := hid (show ∀ j, j < m + 1 + 1 → (h : j < l.length) → nrB l[j].fst = true ∧ l[j].snd.size ≤ 40 from fun j hj h => by
                  by_cases e : j = m + 1
                  · subst e; exact ⟨HR.out, HV.out⟩
                  · exact HA.out j (by omega) h)
                have HT := hid (show ∀ j, j + 1 < m + 1 + 1 → (h : j + 1 < l.length) → lt l[j].fst l[j + 1].fst = true from fun j hj h => by
                  by_cases e : j = m
                  · subst e; exact hg
                  · exact HS.out j (by omega) h)
                have hq : Op.bytesLess l[m].fst.toList l[m + 1].fst.toList = true := hg
                have HP := hid (fun W (hb : Below w.heap.size w W) => ((HQ.out.stay hb (Nat.le_refl _)).2 m hlm).c0)
                clear hg HR HV
                generalize l[m].fst = t0 at *
                generalize l[m + 1].fst = q1 at *
                generalize l[m + 1].snd = q2 at *
                have hbW : Below w.heap.size w (wr.alloc (.cells #[.string q1, .string q2] 73)) := hbel.alloc hbel.size _
                have z0 : (wr.alloc (.cells #[.string q1, .string q2] 73)).cell? ⟨wr.heap.size, 0, none⟩ = some (.string q1) := by simp [go_sem]
                have z1 : (wr.alloc (.cells #[.string q1, .string q2] 73)).cell? ⟨wr.heap.size, 1, none⟩ = some (.string q2) := by simp [go_sem]
                have p0 := HP.out _ hbW
                go_wp2
                generalize wr.alloc (.cells #[.string q1, .string q2] 73) = WW at *
                have z0' := cell_regrown z0
                have z1' := cell_regrown z1
                have p0' := cell_regrown p0
                have d1 := fun d os => Calls.regrown_of (w := WW) (d := d) (os := os) (cN _)
                clear c0 c1 z0 z1 p0 cN
                refine wp_region_quiet_below mixed (by kernel_rfl) ?_
                repeat (go_big_quiet_step ((go_at_call 34; exact d1 _ _)))
                refine wpQuiet_nil ?_
                intro _ hw'
                obtain ⟨⟨dq, osq⟩, hw''⟩ := hw'
                subst hw''
                have hbX := hbW.trans ((below_regrown WW dq osq).mono hbW.size)
                clear z0' z1' p0' d1
                go_wp2
                go_roundw
                case rel => exact ⟨m + 1 + 1, by omega, by go_num, HR2.out, HT.out, hbX⟩
                case measure => simp [intOf]; omega
          · have h41 : decide (40 < (l[k].snd.size : Int)) = true := by simp; omega
            have HM := hid (show ¬ VarsP l from fun D => h40 (D.nm k hlt).2)
            clear h40
            generalize l[k].fst = q1 at *
            generalize l[k].snd = q2 at *
            have hbW : Below w.heap.size w (wr.alloc (.cells #[.string q1, .string q2] 73)) := hbel.alloc hbel.size _
            have z0 : (wr.alloc (.cells #[.string q1, .string q2] 73)).cell? ⟨wr.heap.size, 0, none⟩ = some (.string q1) := by simp [go_sem]
            have z1 : (wr.alloc (.cells #[.string q1, .string q2] 73)).cell? ⟨wr.heap.size, 1, none⟩ = some (.string q2) := by simp [go_sem]
            go_wp2
            generalize wr.alloc (.cells #[.string q1, .string q2] 73) = WW at *
            have z0' := cell_regrown z0
            have z1' := cell_regrown z1
            have d1 := fun d os => Calls.regrown_of (w := WW) (d := d) (os := os) (cN _)
            clear c0 c1 z0 z1 cN
            refine wp_region_quiet_below mixed (by kernel_rfl) ?_
            repeat (go_big_quiet_step ((go_at_call 34; exact d1 _ _)))
            refine wpQuiet_nil ?_
            intro _ hw'
            obtain ⟨⟨dq, osq⟩, hw''⟩ := hw'
            subst hw''
            have hbX := hbW.trans ((below_regrown WW dq osq).mono hbW.size)
            clear z0' z1' d1
            go_wp2
            go_ret
            exact ⟨retB_f HM.out, hbX⟩
      · have HF := hid (show VarsP l from ⟨by omega, fun i h => HA.out i (by omega) h, fun i h => HS.out i (by omega) h⟩)
        go_wp2
        go_ret
        exact ⟨retB_t HF.out, hbel⟩
end Go.Proofs.Ytmffliikenimnaa
