/-
  Texts put together: SpMk, SpVr.
-/
import Derived.Test.YtdggmeblnbabbaaGreatDoorZDfMath5
import Derived.Test.YtdggmeblnbabbaaGreatDoorZSpDef
/-
  What spec.l03Marks answers, for every Def and every row of marks: a contract over the seat's program.
-/
namespace Go.Proofs.YtdggmeblnbabbaaGreatDoor
open Go.RowKit Go.Sort

set_option maxRecDepth 100000 in
set_option maxHeartbeats 1000000 in
theorem l03Marks_row (a1 a2 : Option Addr) (k1 k2 g o c : Nat) (ss l : List ByteArray) (fs : List Pr) (w : World) (h1 : StrSl w (.slice a1 ss.length k1) ss) (hE : StrsAt w g o l) (n1 : ss.length ≤ maxLen) (n2 : l.length ≤ maxLen) :
    Calls Tryz.prog 47 #[.agg #[.slice a1 ss.length k1, .slice a2 fs.length k2], .slice (some ⟨g, o, none⟩) l.length c] w fun e w' => RetB e (MarksP ss l) ∧ Below w.heap.size w w' := by
  have mixed : Tryz.prog.follows .mixedOrders = true := by kernel_rfl
  have HE := hid hE
  have H1 := hid h1
  have N1 := hid n1
  unfold maxLen at n1 n2
  clear hE h1
  go_enter Tryz.func47, Tryz.ntmps47
  go_wp2
  go_loopw [5] (fun i wr => ∃ k : Nat, k ≤ l.length ∧ i = .int .i64 k ∧ (∀ j, j < k → (h : j < l.length) → l[j] ∈ ss) ∧ (∀ j, j + 1 < k → (h : j + 1 < l.length) → lt l[j + 1] l[j] = false) ∧ Below (w.heap.size + 1) (w.alloc (.cells #[.slice a1 ss.length k1, .slice a2 fs.length k2] 26)) wr) (fun i _ => l.length - (intOf i).toNat)
  case atStart => exact ⟨0, Nat.zero_le _, rfl, fun j hj => absurd hj (by omega), fun j hj => absurd hj (by omega), Below.refl _ _⟩
  case round =>
    obtain ⟨k, hk, rfl, hall, hsrt, hbel⟩ := hrel
    have HA := hid hall
    have HS := hid hsrt
    clear hall hsrt
    have hbw : Below w.heap.size w wr := ((Below.refl w.heap.size w).alloc (Nat.le_refl _) _).trans (hbel.mono (by omega))
    have hbz : w.heap.size + 1 ≤ wr.heap.size := by have := hbel.size; simpa using this
    have b0 : wr.cell? ⟨w.heap.size, 0, none⟩ = some (.slice a1 ss.length k1) := by rw [hbel.cell (p := ⟨w.heap.size, 0, none⟩) (Nat.lt_succ_self _)]; simp [go_sem]
    by_cases hlt : k < l.length
    · have c0 := (HE.out.stay hbw (Nat.le_refl _)).2 k hlt
      have cF := fun t d os => calls_below (l03At_any _ ss t _ ((H1.out.stay hbw (Nat.le_refl _)).stay (below_regrown wr d os) (Nat.le_refl _)) N1.out)
      by_cases hm : l[k] ∈ ss
      · have hF2 : decide (atI ss l[k] < 0) = false := by have := atI_ge.2 hm; simp; omega
        have HM := hid hm
        clear hm
        by_cases hk0 : k = 0
        · subst hk0
          rw [Nat.add_zero] at c0
          go_wp2
          have c0' := cell_regrown c0
          have b0' := cell_regrown b0
          have d1 := fun t d os => Calls.regrown_of (w := wr) (d := d) (os := os) (cF t d os)
          clear c0 b0 cF
          refine wp_region_quiet_below mixed (by kernel_rfl) ?_
          repeat (go_big_quiet_step ((go_at_call 30; exact d1 _ _ _)))
          refine wpQuiet_nil ?_
          intro _ hw'
          obtain ⟨⟨dq, osq⟩, hw''⟩ := hw'
          subst hw''
          have hbX := hbel.trans ((below_regrown wr dq osq).mono hbz)
          have hbY := hbw.trans ((below_regrown wr dq osq).mono hbw.size)
          clear c0' b0' d1
          go_wp2
          go_roundw
          case rel => exact ⟨1, by omega, by go_num, fun j hj h => by
            obtain rfl : j = 0 := by omega
            exact HM.out, fun j hj h => by omega, hbX⟩
          case measure => simp [intOf]; omega
        · obtain ⟨m, rfl⟩ : ∃ m, k = m + 1 := ⟨k - 1, by omega⟩
          have p0 := (HE.out.stay hbw (Nat.le_refl _)).2 m (by omega)
          have hlm : m < l.length := by omega
          clear hk0
          cases hg : lt l[m + 1] l[m] with
          | true =>
            have HG := hid (show ¬ MarksP ss l from fun D => by have := D.sorted m hlt; rw [hg] at this; cases this)
            have hq : Op.bytesLess l[m].toList l[m + 1].toList = false := less_asym _ _ hg
            have hq2 : (l[m].toList == l[m + 1].toList) = false := by
              rw [beq_eq_false_iff_ne]; intro e; unfold lt at hg; rw [e, less_irr] at hg; cases hg
            clear hg
            generalize l[m] = t0 at *
            generalize l[m + 1] = t1 at *
            go_wp2
            have c0' := cell_regrown c0
            have b0' := cell_regrown b0
            have p0' := cell_regrown p0
            have d1 := fun t d os => Calls.regrown_of (w := wr) (d := d) (os := os) (cF t d os)
            clear c0 b0 p0 cF
            refine wp_region_quiet_below mixed (by kernel_rfl) ?_
            repeat (go_big_quiet_step ((go_at_call 30; exact d1 _ _ _)))
            refine wpQuiet_nil ?_
            intro _ hw'
            obtain ⟨⟨dq, osq⟩, hw''⟩ := hw'
            subst hw''
            have hbX := hbel.trans ((below_regrown wr dq osq).mono hbz)
            have hbY := hbw.trans ((below_regrown wr dq osq).mono hbw.size)
            clear c0' b0' p0' d1
            go_wp2
            go_ret
            exact ⟨retB_f HG.out, hbY⟩
          | false =>
            have HG := hid hg
            have HR := hid (show ∀ j, j < m + 1 + 1 → (h : j < l.length) → l[j] ∈ ss from fun j hj h => by
              by_cases e : j = m + 1
              · subst e; exact HM.out
              · exact HA.out j (by omega) h)
            have HT := hid (show ∀ j, j + 1 < m + 1 + 1 → (h : j + 1 < l.length) → lt l[j + 1] l[j] = false from fun j hj h => by
              by_cases e : j = m
              · subst e; exact HG.out
              · exact HS.out j (by omega) h)
            by_cases hq : Op.bytesLess l[m].toList l[m + 1].toList = true
            · clear hg HM HG
              generalize l[m] = t0 at *
              generalize l[m + 1] = t1 at *
              go_wp2
              have c0' := cell_regrown c0
              have b0' := cell_regrown b0
              have p0' := cell_regrown p0
              have d1 := fun t d os => Calls.regrown_of (w := wr) (d := d) (os := os) (cF t d os)
              clear c0 b0 p0 cF
              refine wp_region_quiet_below mixed (by kernel_rfl) ?_
              repeat (go_big_quiet_step ((go_at_call 30; exact d1 _ _ _)))
              refine wpQuiet_nil ?_
              intro _ hw'
              obtain ⟨⟨dq, osq⟩, hw''⟩ := hw'
              subst hw''
              have hbX := hbel.trans ((below_regrown wr dq osq).mono hbz)
              have hbY := hbw.trans ((below_regrown wr dq osq).mono hbw.size)
              clear c0' b0' p0' d1
              go_wp2
              go_roundw
              case rel => exact ⟨m + 1 + 1, by omega, by go_num, HR.out, HT.out, hbX⟩
              case measure => simp [intOf]; omega
            · have he : l[m] = l[m + 1] := by
                rcases less_tri l[m].toList l[m + 1].toList with h | h | h
                · exact absurd h hq
                · exact toList_inj h
                · unfold lt at hg; rw [h] at hg; cases hg
              rw [he] at p0
              clear hg HM HG hq he
              generalize l[m + 1] = t1 at *
              go_wp2
              have c0' := cell_regrown c0
              have b0' := cell_regrown b0
              have p0' := cell_regrown p0
              have d1 := fun t d os => Calls.regrown_of (w := wr) (d := d) (os := os) (cF t d os)
              clear c0 b0 p0 cF
              refine wp_region_quiet_below mixed (by kernel_rfl) ?_
              repeat (go_big_quiet_step ((go_at_call 30; exact d1 _ _ _)))
              refine wpQuiet_nil ?_
              intro _ hw'
              obtain ⟨⟨dq, osq⟩, hw''⟩ := hw'
              subst hw''
              have hbX := hbel.trans ((below_regrown wr dq osq).mono hbz)
              have hbY := hbw.trans ((below_regrown wr dq osq).mono hbw.size)
              clear c0' b0' p0' d1
              go_wp2
              go_roundw
              case rel => exact ⟨m + 1 + 1, by omega, by go_num, HR.out, HT.out, hbX⟩
              case measure => simp [intOf]; omega
      · have hF2 : decide (atI ss l[k] < 0) = true := by rw [atI_out hm]; rfl
        have HM := hid (show ¬ MarksP ss l from fun D => hm (D.mem k hlt))
        clear hm
        go_wp2
        have c0' := cell_regrown c0
        have b0' := cell_regrown b0
        have d1 := fun t d os => Calls.regrown_of (w := wr) (d := d) (os := os) (cF t d os)
        clear c0 b0 cF
        refine wp_region_quiet_below mixed (by kernel_rfl) ?_
        repeat (go_big_quiet_step ((go_at_call 30; exact d1 _ _ _)))
        refine wpQuiet_nil ?_
        intro _ hw'
        obtain ⟨⟨dq, osq⟩, hw''⟩ := hw'
        subst hw''
        have hbX := hbel.trans ((below_regrown wr dq osq).mono hbz)
        have hbY := hbw.trans ((below_regrown wr dq osq).mono hbw.size)
        clear c0' b0' d1
        go_wp2
        go_ret
        exact ⟨retB_f HM.out, hbY⟩
    · have HF := hid (show MarksP ss l from ⟨fun i h => HA.out i (by omega) h, fun i h => HS.out i (by omega) h⟩)
      go_wp2
      go_ret
      exact ⟨retB_t HF.out, hbw⟩
set_option maxRecDepth 100000 in
theorem l03Marks_none (a1 a2 a : Option Addr) (k1 k2 n1 n2 c : Nat) (w : World) :
    Calls Tryz.prog 47 #[.agg #[.slice a1 n1 k1, .slice a2 n2 k2], .slice a 0 c] w fun e w' => e = .returned (.bool true) ∧ Below w.heap.size w w' := by
  go_enter Tryz.func47, Tryz.ntmps47
  go_wp2
  go_loop [5] (fun i => i = .int .i64 0) (fun _ => 0)
  case atStart => exact rfl
  case round =>
    subst hrel
    go_wp2
    go_ret
    exact ⟨rfl, (Below.refl _ _).alloc (Nat.le_refl _) _⟩
theorem l03Marks_any (a1 a2 : Option Addr) (k1 k2 : Nat) (v : Value) (ss l : List ByteArray) (fs : List Pr) (w : World) (h1 : StrSl w (.slice a1 ss.length k1) ss) (h2 : StrSl w v l) (n1 : ss.length ≤ maxLen) (n2 : l.length ≤ maxLen) :
    Calls Tryz.prog 47 #[.agg #[.slice a1 ss.length k1, .slice a2 fs.length k2], v] w fun e w' => RetB e (MarksP ss l) ∧ Below w.heap.size w w' := by
  rcases h2 with ⟨a, c, rfl, rfl⟩ | ⟨g, o, c, rfl, _, h⟩
  · refine (l03Marks_none a1 a2 a k1 k2 _ _ c w).mono ?_
    rintro e w' ⟨rfl, hb⟩
    exact ⟨retB_t ⟨fun i h => absurd h (by simp), fun i h => absurd h (by simp)⟩, hb⟩
  · exact l03Marks_row a1 a2 k1 k2 g o c ss l fs w h1 h n1 n2
end Go.Proofs.YtdggmeblnbabbaaGreatDoor

/-
  What spec.l03Vars answers, for every row of vars: a contract over the seat's program.
-/
namespace Go.Proofs.YtdggmeblnbabbaaGreatDoor
open Go.RowKit Go.Sort

set_option maxRecDepth 100000 in
set_option maxHeartbeats 1000000 in
theorem l03Vars_row (g o c : Nat) (l : List Pr) (w : World) (hE : PrsAt w g o l) (hF : FitP l) (n2 : l.length ≤ maxLen) :
    Calls Tryz.prog 48 #[.slice (some ⟨g, o, none⟩) l.length c] w fun e w' => RetB e (VarsP l) ∧ Below w.heap.size w w' := by
  have mixed : Tryz.prog.follows .mixedOrders = true := by kernel_rfl
  have HE := hid hE
  unfold maxLen at n2
  clear hE
  go_enter Tryz.func48, Tryz.ntmps48
  go_wp2
  go_loopw [3] (fun i wr => ∃ k : Nat, k ≤ l.length ∧ i = .int .i64 k ∧ (∀ j, j < k → (h : j < l.length) → nrB l[j].fst = true ∧ l[j].snd.size ≤ 40) ∧ (∀ j, j + 1 < k → (h : j + 1 < l.length) → lt l[j].fst l[j + 1].fst = true) ∧ Below w.heap.size w wr) (fun i _ => l.length - (intOf i).toNat)
  case atStart => exact ⟨0, Nat.zero_le _, rfl, fun j hj => absurd hj (by omega), fun j hj => absurd hj (by omega), Below.refl _ _⟩
  case round =>
    obtain ⟨k, hk, rfl, hall, hsrt, hbel⟩ := hrel
    have HA := hid hall
    have HS := hid hsrt
    clear hall hsrt
    by_cases hlt : k < l.length
    · obtain ⟨c0, c1⟩ := (HE.out.stay hbel (Nat.le_refl _)).2 k hlt
      have hf := hF k hlt
      have cN := fun W => calls_below (specNameRight_any l[k].fst W hf.1)
      have hf2 := hf.2
      unfold maxLen at hf2
      clear hf
      cases hr : nrB l[k].fst with
      | false =>
        rw [hr] at cN
        have HM := hid (show ¬ VarsP l from fun D => by have := (D.nm k hlt).1; rw [hr] at this; cases this)
        clear hr
        generalize l[k].fst = q1 at *
        generalize l[k].snd = q2 at *
        go_wp2
        have c0' := cell_regrown c0
        have c1' := cell_regrown c1
        have d1 := fun d os => Calls.regrown_of (w := wr) (d := d) (os := os) (cN _)
        clear c0 c1 cN
        refine wp_region_quiet_below mixed (by kernel_rfl) ?_
        repeat (go_big_quiet_step ((go_at_call 29; exact d1 _ _)))
        refine wpQuiet_nil ?_
        intro _ hw'
        obtain ⟨⟨dq, osq⟩, hw''⟩ := hw'
        subst hw''
        have hbX := hbel.trans ((below_regrown wr dq osq).mono hbel.size)
        clear c0' c1' d1
        go_wp2
        go_ret
        exact ⟨retB_f HM.out, hbX⟩
      | true =>
        rw [hr] at cN
        have HR := hid hr
        clear hr
        by_cases h40 : l[k].snd.size ≤ 40
        · have h41 : decide (40 < (l[k].snd.size : Int)) = false := by simp; omega
          have HV := hid h40
          by_cases hk0 : k = 0
          · subst hk0
            simp only [Nat.zero_mul, Nat.add_zero] at c0 c1
            have HR0 := hid (show nrB l[0].fst = true ∧ l[0].snd.size ≤ 40 from ⟨HR.out, HV.out⟩)
            clear HR HV h40
            have HR1 := hid (show ∀ j, j < 1 → (h : j < l.length) → nrB l[j].fst = true ∧ l[j].snd.size ≤ 40 from fun j hj h => by
              obtain rfl : j = 0 := by omega
              exact HR0.out)
            clear HR0
            generalize l[0].fst = q1 at *
            generalize l[0].snd = q2 at *
            go_wp2
            have c0' := cell_regrown c0
            have c1' := cell_regrown c1
            have d1 := fun d os => Calls.regrown_of (w := wr) (d := d) (os := os) (cN _)
            clear c0 c1 cN
            refine wp_region_quiet_below mixed (by kernel_rfl) ?_
            repeat (go_big_quiet_step ((go_at_call 29; exact d1 _ _)))
            refine wpQuiet_nil ?_
            intro _ hw'
            obtain ⟨⟨dq, osq⟩, hw''⟩ := hw'
            subst hw''
            have hbX := hbel.trans ((below_regrown wr dq osq).mono hbel.size)
            clear c0' c1' d1
            go_wp2
            go_roundw
            case rel => exact ⟨1, by omega, by go_num, HR1.out, fun j hj h => by omega, hbX⟩
            case measure => simp [intOf]; omega
          · obtain ⟨m, rfl⟩ : ∃ m, k = m + 1 := ⟨k - 1, by omega⟩
            obtain ⟨p0, _⟩ := (HE.out.stay hbel (Nat.le_refl _)).2 m (by omega)
            have hlm : m < l.length := by omega
            clear hk0
            cases hg : lt l[m].fst l[m + 1].fst with
            | false =>
              have HG := hid (show ¬ VarsP l from fun D => by have := D.rise m hlt; rw [hg] at this; cases this)
              have hq : Op.bytesLess l[m].fst.toList l[m + 1].fst.toList = false := hg
              clear hg
              generalize l[m].fst = t0 at *
              generalize l[m + 1].fst = t1 at *
              generalize l[m + 1].snd = t2 at *
              go_wp2
              have c0' := cell_regrown c0
              have c1' := cell_regrown c1
              have p0' := cell_regrown p0
              have d1 := fun d os => Calls.regrown_of (w := wr) (d := d) (os := os) (cN _)
              clear c0 c1 p0 cN
              refine wp_region_quiet_below mixed (by kernel_rfl) ?_
              repeat (go_big_quiet_step ((go_at_call 29; exact d1 _ _)))
              refine wpQuiet_nil ?_
              intro _ hw'
              obtain ⟨⟨dq, osq⟩, hw''⟩ := hw'
              subst hw''
              have hbX := hbel.trans ((below_regrown wr dq osq).mono hbel.size)
              clear c0' c1' p0' d1
              go_wp2
              go_ret
              exact ⟨retB_f HG.out, hbX⟩
            | true =>
              have HR2 := hid (show ∀ j, j < m + 1 + 1 → (h : j < l.length) → nrB l[j].fst = true ∧ l[j].snd.size ≤ 40 from fun j hj h => by
                by_cases e : j = m + 1
                · subst e; exact ⟨HR.out, HV.out⟩
                · exact HA.out j (by omega) h)
              have HT := hid (show ∀ j, j + 1 < m + 1 + 1 → (h : j + 1 < l.length) → lt l[j].fst l[j + 1].fst = true from fun j hj h => by
                by_cases e : j = m
                · subst e; exact hg
                · exact HS.out j (by omega) h)
              have hq : Op.bytesLess l[m].fst.toList l[m + 1].fst.toList = true := hg
              clear hg HR HV
              generalize l[m].fst = t0 at *
              generalize l[m + 1].fst = t1 at *
              generalize l[m + 1].snd = t2 at *
              go_wp2
              have c0' := cell_regrown c0
              have c1' := cell_regrown c1
              have p0' := cell_regrown p0
              have d1 := fun d os => Calls.regrown_of (w := wr) (d := d) (os := os) (cN _)
              clear c0 c1 p0 cN
              refine wp_region_quiet_below mixed (by kernel_rfl) ?_
              repeat (go_big_quiet_step ((go_at_call 29; exact d1 _ _)))
              refine wpQuiet_nil ?_
              intro _ hw'
              obtain ⟨⟨dq, osq⟩, hw''⟩ := hw'
              subst hw''
              have hbX := hbel.trans ((below_regrown wr dq osq).mono hbel.size)
              clear c0' c1' p0' d1
              go_wp2
              go_roundw
              case rel => exact ⟨m + 1 + 1, by omega, by go_num, HR2.out, HT.out, hbX⟩
              case measure => simp [intOf]; omega
        · have h41 : decide (40 < (l[k].snd.size : Int)) = true := by simp; omega
          have HM := hid (show ¬ VarsP l from fun D => h40 (D.nm k hlt).2)
          clear h40
          generalize l[k].fst = q1 at *
          generalize l[k].snd = q2 at *
          go_wp2
          have c0' := cell_regrown c0
          have c1' := cell_regrown c1
          have d1 := fun d os => Calls.regrown_of (w := wr) (d := d) (os := os) (cN _)
          clear c0 c1 cN
          refine wp_region_quiet_below mixed (by kernel_rfl) ?_
          repeat (go_big_quiet_step ((go_at_call 29; exact d1 _ _)))
          refine wpQuiet_nil ?_
          intro _ hw'
          obtain ⟨⟨dq, osq⟩, hw''⟩ := hw'
          subst hw''
          have hbX := hbel.trans ((below_regrown wr dq osq).mono hbel.size)
          clear c0' c1' d1
          go_wp2
          go_ret
          exact ⟨retB_f HM.out, hbX⟩
    · by_cases h20 : l.length ≤ 20
      · have HF := hid (show VarsP l from ⟨h20, fun i h => HA.out i (by omega) h, fun i h => HS.out i (by omega) h⟩)
        have h21 : decide ((l.length : Int) ≤ 20) = true := by simp; omega
        go_wp2
        go_ret
        exact ⟨retB_t HF.out, hbel⟩
      · have HF := hid (show ¬ VarsP l from fun D => h20 D.n)
        have h21 : decide ((l.length : Int) ≤ 20) = false := by simp; omega
        go_wp2
        go_ret
        exact ⟨retB_f HF.out, hbel⟩
theorem l03Vars_none (a : Option Addr) (c : Nat) (w : World) :
    Calls Tryz.prog 48 #[.slice a 0 c] w fun e w' => e = .returned (.bool true) ∧ Below w.heap.size w w' := by
  go_enter Tryz.func48, Tryz.ntmps48
  go_wp2
  go_loop [3] (fun i => i = .int .i64 0) (fun _ => 0)
  case atStart => exact rfl
  case round =>
    subst hrel
    go_wp2
    go_ret
    exact ⟨rfl, Below.refl _ _⟩
theorem varsP_nil : VarsP [] := ⟨by simp, fun i h => absurd h (by simp), fun i h => absurd h (by simp)⟩
theorem l03Vars_any (v : Value) (l : List Pr) (w : World) (h2 : PrSl w v l) (hF : FitP l) (n2 : l.length ≤ maxLen) :
    Calls Tryz.prog 48 #[v] w fun e w' => RetB e (VarsP l) ∧ Below w.heap.size w w' := by
  rcases h2 with ⟨a, c, rfl, rfl⟩ | ⟨g, o, c, rfl, _, h⟩
  · refine (l03Vars_none a c w).mono ?_
    rintro e w' ⟨rfl, hb⟩
    exact ⟨retB_t varsP_nil, hb⟩
  · exact l03Vars_row g o c l w h hF n2
end Go.Proofs.YtdggmeblnbabbaaGreatDoor
