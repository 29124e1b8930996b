/-
  What spec.l03Vars answers, for every row of vars: a contract over the seat's program.
-/
import Derived.Test.YtmffliikenimnaaStMath
import Derived.Test.YtmffliikenimnaaSpDef
namespace Go.Proofs.Ytmffliikenimnaa
open Go.RowKit Go.Sort

set_option maxRecDepth 100000 in
set_option maxHeartbeats 1000000 in
theorem l03Vars_row (g o c : Nat) (l : List Pr) (w : World) (hE : PrsAt w g o l) (hF : FitP l) (n2 : l.length ≤ maxLen) :
    Calls Try.prog 41 #[.slice (some ⟨g, o, none⟩) l.length c] w fun e w' => RetB e (VarsP l) ∧ Below w.heap.size w w' := by
  have mixed : Try.prog.follows .mixedOrders = true := by kernel_rfl
  have HE := hid hE
  unfold maxLen at n2
  clear hE
  go_enter Try.func41, Try.ntmps41
  go_wp2
  go_loopw [3] (fun i wr => ∃ k : Nat, k ≤ l.length ∧ i = .int .i64 k ∧ (∀ j, j < k → (h : j < l.length) → nrB l[j].fst = true ∧ l[j].snd.size ≤ 40) ∧ (∀ j, j + 1 < k → (h : j + 1 < l.length) → lt l[j].fst l[j + 1].fst = true) ∧ Below w.heap.size w wr) (fun i _ => l.length - (intOf i).toNat)
  case atStart => exact ⟨0, Nat.zero_le _, rfl, fun j hj => absurd hj (by omega), fun j hj => absurd hj (by omega), Below.refl _ _⟩
  case round =>
    obtain ⟨k, hk, rfl, hall, hsrt, hbel⟩ := hrel
    have HA := hid hall
    have HS := hid hsrt
    clear hall hsrt
    by_cases hlt : k < l.length
    · obtain ⟨c0, c1⟩ := (HE.out.stay hbel (Nat.le_refl _)).2 k hlt
      have hf := hF k hlt
      have cN := fun W => calls_below (specNameRight_any l[k].fst W hf.1)
      have hf2 := hf.2
      unfold maxLen at hf2
      clear hf
      cases hr : nrB l[k].fst with
      | false =>
        rw [hr] at cN
        have HM := hid (show ¬ VarsP l from fun D => by have := (D.nm k hlt).1; rw [hr] at this; cases this)
        clear hr
        generalize l[k].fst = q1 at *
        generalize l[k].snd = q2 at *
        go_wp2
        have c0' := cell_regrown c0
        have c1' := cell_regrown c1
        have d1 := fun d os => Calls.regrown_of (w := wr) (d := d) (os := os) (cN _)
        clear c0 c1 cN
        refine wp_region_quiet_below mixed (by kernel_rfl) ?_
        repeat (go_big_quiet_step ((go_at_call 17; exact d1 _ _)))
        refine wpQuiet_nil ?_
        intro _ hw'
        obtain ⟨⟨dq, osq⟩, hw''⟩ := hw'
        subst hw''
        have hbX := hbel.trans ((below_regrown wr dq osq).mono hbel.size)
        clear c0' c1' d1
        go_wp2
        go_ret
        exact ⟨retB_f HM.out, hbX⟩
      | true =>
        rw [hr] at cN
        have HR := hid hr
        clear hr
        by_cases h40 : l[k].snd.size ≤ 40
        · have h41 : decide (40 < (l[k].snd.size : Int)) = false := by simp; omega
          have HV := hid h40
          by_cases hk0 : k = 0
          · subst hk0
            simp only [Nat.zero_mul, Nat.add_zero] at c0 c1
            have HR0 := hid (show nrB l[0].fst = true ∧ l[0].snd.size ≤ 40 from ⟨HR.out, HV.out⟩)
            clear HR HV h40
            have HR1 := hid (show ∀ j, j < 1 → (h : j < l.length) → nrB l[j].fst = true ∧ l[j].snd.size ≤ 40 from fun j hj h => by
              obtain rfl : j = 0 := by omega
              exact HR0.out)
            clear HR0
            generalize l[0].fst = q1 at *
            generalize l[0].snd = q2 at *
            go_wp2
            have c0' := cell_regrown c0
            have c1' := cell_regrown c1
            have d1 := fun d os => Calls.regrown_of (w := wr) (d := d) (os := os) (cN _)
            clear c0 c1 cN
            refine wp_region_quiet_below mixed (by kernel_rfl) ?_
            repeat (go_big_quiet_step ((go_at_call 17; exact d1 _ _)))
            refine wpQuiet_nil ?_
            intro _ hw'
            obtain ⟨⟨dq, osq⟩, hw''⟩ := hw'
            subst hw''
            have hbX := hbel.trans ((below_regrown wr dq osq).mono hbel.size)
            clear c0' c1' d1
            go_wp2
            go_roundw
            case rel => exact ⟨1, by omega, by go_num, HR1.out, fun j hj h => by omega, hbX⟩
            case measure => simp [intOf]; omega
          · obtain ⟨m, rfl⟩ : ∃ m, k = m + 1 := ⟨k - 1, by omega⟩
            obtain ⟨p0, _⟩ := (HE.out.stay hbel (Nat.le_refl _)).2 m (by omega)
            have hlm : m < l.length := by omega
            clear hk0
            cases hg : lt l[m].fst l[m + 1].fst with
            | false =>
              have HG := hid (show ¬ VarsP l from fun D => by have := D.rise m hlt; rw [hg] at this; cases this)
              have hq : Op.bytesLess l[m].fst.toList l[m + 1].fst.toList = false := hg
              clear hg
              generalize l[m].fst = t0 at *
              generalize l[m + 1].fst = t1 at *
              generalize l[m + 1].snd = t2 at *
              go_wp2
              have c0' := cell_regrown c0
              have c1' := cell_regrown c1
              have p0' := cell_regrown p0
              have d1 := fun d os => Calls.regrown_of (w := wr) (d := d) (os := os) (cN _)
              clear c0 c1 p0 cN
              refine wp_region_quiet_below mixed (by kernel_rfl) ?_
              repeat (go_big_quiet_step ((go_at_call 17; exact d1 _ _)))
              refine wpQuiet_nil ?_
              intro _ hw'
              obtain ⟨⟨dq, osq⟩, hw''⟩ := hw'
              subst hw''
              have hbX := hbel.trans ((below_regrown wr dq osq).mono hbel.size)
              clear c0' c1' p0' d1
              go_wp2
              go_ret
              exact ⟨retB_f HG.out, hbX⟩
            | true =>
              have HR2 := hid (show ∀ j, j < m + 1 + 1 → (h : j < l.length) → nrB l[j].fst = true ∧ l[j].snd.size ≤ 40 from fun j hj h => by
                by_cases e : j = m + 1
                · subst e; exact ⟨HR.out, HV.out⟩
                · exact HA.out j (by omega) h)
              have HT := hid (show ∀ j, j + 1 < m + 1 + 1 → (h : j + 1 < l.length) → lt l[j].fst l[j + 1].fst = true from fun j hj h => by
                by_cases e : j = m
                · subst e; exact hg
                · exact HS.out j (by omega) h)
              have hq : Op.bytesLess l[m].fst.toList l[m + 1].fst.toList = true := hg
              clear hg HR HV
              generalize l[m].fst = t0 at *
              generalize l[m + 1].fst = t1 at *
              generalize l[m + 1].snd = t2 at *
              go_wp2
              have c0' := cell_regrown c0
              have c1' := cell_regrown c1
              have p0' := cell_regrown p0
              have d1 := fun d os => Calls.regrown_of (w := wr) (d := d) (os := os) (cN _)
              clear c0 c1 p0 cN
              refine wp_region_quiet_below mixed (by kernel_rfl) ?_
              repeat (go_big_quiet_step ((go_at_call 17; exact d1 _ _)))
              refine wpQuiet_nil ?_
              intro _ hw'
              obtain ⟨⟨dq, osq⟩, hw''⟩ := hw'
              subst hw''
              have hbX := hbel.trans ((below_regrown wr dq osq).mono hbel.size)
              clear c0' c1' p0' d1
              go_wp2
              go_roundw
              case rel => exact ⟨m + 1 + 1, by omega, by go_num, HR2.out, HT.out, hbX⟩
              case measure => simp [intOf]; omega
        · have h41 : decide (40 < (l[k].snd.size : Int)) = true := by simp; omega
          have HM := hid (show ¬ VarsP l from fun D => h40 (D.nm k hlt).2)
          clear h40
          generalize l[k].fst = q1 at *
          generalize l[k].snd = q2 at *
          go_wp2
          have c0' := cell_regrown c0
          have c1' := cell_regrown c1
          have d1 := fun d os => Calls.regrown_of (w := wr) (d := d) (os := os) (cN _)
          clear c0 c1 cN
          refine wp_region_quiet_below mixed (by kernel_rfl) ?_
          repeat (go_big_quiet_step ((go_at_call 17; exact d1 _ _)))
          refine wpQuiet_nil ?_
          intro _ hw'
          obtain ⟨⟨dq, osq⟩, hw''⟩ := hw'
          subst hw''
          have hbX := hbel.trans ((below_regrown wr dq osq).mono hbel.size)
          clear c0' c1' d1
          go_wp2
          go_ret
          exact ⟨retB_f HM.out, hbX⟩
    · by_cases h20 : l.length ≤ 20
      · have HF := hid (show VarsP l from ⟨h20, fun i h => HA.out i (by omega) h, fun i h => HS.out i (by omega) h⟩)
        have h21 : decide ((l.length : Int) ≤ 20) = true := by simp; omega
        go_wp2
        go_ret
        exact ⟨retB_t HF.out, hbel⟩
      · have HF := hid (show ¬ VarsP l from fun D => h20 D.n)
        have h21 : decide ((l.length : Int) ≤ 20) = false := by simp; omega
        go_wp2
        go_ret
        exact ⟨retB_f HF.out, hbel⟩
theorem l03Vars_none (a : Option Addr) (c : Nat) (w : World) :
    Calls Try.prog 41 #[.slice a 0 c] w fun e w' => e = .returned (.bool true) ∧ Below w.heap.size w w' := by
  go_enter Try.func41, Try.ntmps41
  go_wp2
  go_loop [3] (fun i => i = .int .i64 0) (fun _ => 0)
  case atStart => exact rfl
  case round =>
    subst hrel
    go_wp2
    go_ret
    exact ⟨rfl, Below.refl _ _⟩
theorem varsP_nil : VarsP [] := ⟨by simp, fun i h => absurd h (by simp), fun i h => absurd h (by simp)⟩
theorem l03Vars_any (v : Value) (l : List Pr) (w : World) (h2 : PrSl w v l) (hF : FitP l) (n2 : l.length ≤ maxLen) :
    Calls Try.prog 41 #[v] w fun e w' => RetB e (VarsP l) ∧ Below w.heap.size w w' := by
  rcases h2 with ⟨a, c, rfl, rfl⟩ | ⟨g, o, c, rfl, _, h⟩
  · refine (l03Vars_none a c w).mono ?_
    rintro e w' ⟨rfl, hb⟩
    exact ⟨retB_t varsP_nil, hb⟩
  · exact l03Vars_row g o c l w h hF n2
end Go.Proofs.Ytmffliikenimnaa
