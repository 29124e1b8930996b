/-
  What spec.DefRight answers, for every Def: a contract over the seat's program.
-/
import Derived.Test.YthggcdadipjiiaaGreatDoorZIsErr3
import Derived.Test.YthggcdadipjiiaaGreatDoorZSpPut6
import Derived.Lib.QuietBelow
import Derived.Laws.StructEq
import Derived.BigQuiet
namespace Go.Proofs.YthggcdadipjiiaaGreatDoor
open Go.RowKit Go.Sort

theorem calls_below {P : Program} {f : FuncId} {args : Array Value} {w : World} {v : Value} (h : Calls P f args w fun e w' => e = .returned v ∧ w' = w) : Calls P f args w fun e w' => e = .returned v ∧ Below w.heap.size w w' :=
  h.mono (by rintro e w' ⟨rfl, rfl⟩; exact ⟨rfl, Below.refl _ _⟩)
set_option maxRecDepth 100000 in
set_option maxHeartbeats 1000000 in
theorem specDefRight_no (a1 a2 : Option Addr) (k1 k2 : Nat) (ss : List ByteArray) (fs : List Pr) (w : World) (n1 : ss.length ≤ maxLen) (n2 : fs.length ≤ maxLen) (h : ss.length < 1 ∨ 12 < ss.length ∨ 40 < fs.length) :
    Calls Tryz.prog 46 #[.agg #[.slice a1 ss.length k1, .slice a2 fs.length k2]] w fun e w' => e = .returned (.bool false) ∧ Below w.heap.size w w' := by
  unfold maxLen at n1 n2
  by_cases h1 : ss.length < 1
  · clear h
    go_enter Tryz.func46, Tryz.ntmps46
    go_wp2
    go_ret
    exact ⟨rfl, (Below.refl _ _).alloc (Nat.le_refl _) _⟩
  · by_cases h2 : 12 < ss.length
    · clear h
      go_enter Tryz.func46, Tryz.ntmps46
      go_wp2
      go_ret
      exact ⟨rfl, (Below.refl _ _).alloc (Nat.le_refl _) _⟩
    · have h3 : 40 < fs.length := by omega
      clear h
      go_enter Tryz.func46, Tryz.ntmps46
      go_wp2
      go_ret
      exact ⟨rfl, (Below.refl _ _).alloc (Nat.le_refl _) _⟩
set_option maxRecDepth 100000 in
set_option maxHeartbeats 1000000 in
theorem specDefRight_go (g o k1 : Nat) (a2 : Option Addr) (k2 : Nat) (ss : List ByteArray) (fs : List Pr) (w : World) (hS : StrsAt w g o ss) (hP : PrSl w (.slice a2 fs.length k2) fs) (hF : ∀ i, (h : i < ss.length) → ss[i].size ≤ maxLen) (hc1 : ss.length ≤ k1) (p1 : 1 ≤ ss.length) (p2 : ss.length ≤ 12) (p3 : fs.length ≤ 40) :
    Calls Tryz.prog 46 #[.agg #[.slice (some ⟨g, o, none⟩) ss.length k1, .slice a2 fs.length k2]] w fun e w' => RetB e (DefP ss fs) ∧ Below w.heap.size w w' := by
  have mixed : Tryz.prog.follows .mixedOrders = true := by kernel_rfl
  have HS := hid hS
  have HP := hid hP
  clear hS hP
  go_enter Tryz.func46, Tryz.ntmps46
  go_wp2
  go_loopw [3] (fun i wr => ∃ k : Nat, k ≤ ss.length ∧ i = .int .i64 k ∧ (∀ j, j < k → (h : j < ss.length) → nrB ss[j] = true ∧ ss[j] ∉ ss.take j) ∧ Below (w.heap.size + 1) (w.alloc (.cells #[.slice (some ⟨g, o, none⟩) ss.length k1, .slice a2 fs.length k2] 26)) wr) (fun i _ => ss.length - (intOf i).toNat)
  case atStart => exact ⟨0, Nat.zero_le _, rfl, fun j hj => absurd hj (by omega), Below.refl _ _⟩
  case round =>
    obtain ⟨k, hk, rfl, hall, hbel⟩ := hrel
    have HA := hid hall
    clear hall
    have hbw : Below w.heap.size w wr := ((Below.refl w.heap.size w).alloc (Nat.le_refl _) _).trans (hbel.mono (by omega))
    have hbz : w.heap.size + 1 ≤ wr.heap.size := by have := hbel.size; simpa using this
    have b0 : wr.cell? ⟨w.heap.size, 0, none⟩ = some (.slice (some ⟨g, o, none⟩) ss.length k1) := by rw [hbel.cell (p := ⟨w.heap.size, 0, none⟩) (Nat.lt_succ_self _)]; simp [go_sem]
    have b1 : wr.cell? ⟨w.heap.size, 1, none⟩ = some (.slice a2 fs.length k2) := by rw [hbel.cell (p := ⟨w.heap.size, 1, none⟩) (Nat.lt_succ_self _)]; simp [go_sem]
    by_cases hlt : k < ss.length
    · have c0 := (HS.out.stay hbw (Nat.le_refl _)).2 k hlt
      have hcap : k ≤ k1 := by omega
      have cN := fun W => calls_below (specNameRight_any ss[k] W (hF k hlt))
      have cA : ∀ d os, Calls Tryz.prog 77 #[.slice (some ⟨g, o, none⟩) k k1, .string ss[k]] (grow (redrawn wr d) os) fun e w' => e = .returned (.int .i64 (atI (ss.take k) ss[k])) ∧ Below (grow (redrawn wr d) os).heap.size (grow (redrawn wr d) os) w' := fun d os => calls_below (l03At_any _ (ss.take k) ss[k] _ ((StrSl.part (n := ss.length) (.inr ⟨g, o, k1, rfl, ⟨by omega, hc1⟩, HS.out.stay hbw (Nat.le_refl _)⟩) (by omega)).stay (below_regrown wr d os) (Nat.le_refl _)) (by rw [List.length_take]; unfold maxLen; omega))
      have HK := hid (fun (D : DefP ss fs) => D.1.nm k hlt)
      have HT := hid (fun (D : DefP ss fs) => nodup_take D.1.nd hlt)
      cases hr : nrB ss[k] with
      | false =>
        rw [hr] at cN
        have HR := hid hr
        generalize atI (ss.take k) ss[k] = I at *
        clear hr
        go_wp2
        have c0' := cell_regrown c0
        have b0' := cell_regrown b0
        have d1 := fun d os => Calls.regrown_of (w := wr) (d := d) (os := os) (cN _)
        have d2 := fun d os => Calls.regrown_of (w := wr) (d := d) (os := os) (cA d os)
        clear c0 b0 b1 cN cA
        refine wp_region_quiet_below mixed (by kernel_rfl) ?_
        repeat (go_big_quiet_step (first | (go_at_call 76; exact d1 _ _) | (go_at_call 77; exact d2 _ _)))
        refine wpQuiet_nil ?_
        intro _ hw'
        obtain ⟨⟨dq, osq⟩, hw''⟩ := hw'
        subst hw''
        have hbX := hbel.trans ((below_regrown wr dq osq).mono hbz)
        have hbY := hbw.trans ((below_regrown wr dq osq).mono hbw.size)
        clear c0' b0' d1 d2
        go_wp2
        go_ret
        exact ⟨retB_f (fun D => by have := HK.out D; rw [HR.out] at this; cases this), hbY⟩
      | true =>
        rw [hr] at cN
        have HR := hid hr
        clear hr
        by_cases hm : ss[k] ∈ ss.take k
        · have hI := atI_ge.2 hm
          have HM := hid hm
          generalize atI (ss.take k) ss[k] = I at *
          clear hm
          go_wp2
          have c0' := cell_regrown c0
          have b0' := cell_regrown b0
          have d1 := fun d os => Calls.regrown_of (w := wr) (d := d) (os := os) (cN _)
          have d2 := fun d os => Calls.regrown_of (w := wr) (d := d) (os := os) (cA d os)
          clear c0 b0 b1 cN cA
          refine wp_region_quiet_below mixed (by kernel_rfl) ?_
          repeat (go_big_quiet_step (first | (go_at_call 76; exact d1 _ _) | (go_at_call 77; exact d2 _ _)))
          refine wpQuiet_nil ?_
          intro _ hw'
          obtain ⟨⟨dq, osq⟩, hw''⟩ := hw'
          subst hw''
          have hbX := hbel.trans ((below_regrown wr dq osq).mono hbz)
          have hbY := hbw.trans ((below_regrown wr dq osq).mono hbw.size)
          clear c0' b0' d1 d2
          go_wp2
          go_ret
          exact ⟨retB_f (fun D => HT.out D HM.out), hbY⟩
        · rw [atI_out hm] at cA
          have HM := hid hm
          clear hm
          go_wp2
          have c0' := cell_regrown c0
          have b0' := cell_regrown b0
          have d1 := fun d os => Calls.regrown_of (w := wr) (d := d) (os := os) (cN _)
          have d2 := fun d os => Calls.regrown_of (w := wr) (d := d) (os := os) (cA d os)
          clear c0 b0 b1 cN cA
          refine wp_region_quiet_below mixed (by kernel_rfl) ?_
          repeat (go_big_quiet_step (first | (go_at_call 76; exact d1 _ _) | (go_at_call 77; exact d2 _ _)))
          refine wpQuiet_nil ?_
          intro _ hw'
          obtain ⟨⟨dq, osq⟩, hw''⟩ := hw'
          subst hw''
          have hbX := hbel.trans ((below_regrown wr dq osq).mono hbz)
          have hbY := hbw.trans ((below_regrown wr dq osq).mono hbw.size)
          clear c0' b0' d1 d2
          go_wp2
          go_roundw
          case rel => exact ⟨k + 1, by omega, by go_num, fun j hj h => by
            by_cases e : j = k
            · subst e; exact ⟨HR.out, HM.out⟩
            · exact HA.out j (by omega) h, hbX⟩
          case measure => simp [intOf]; omega
    · have hst : StepsP ss := ⟨p1, p2, fun i h => (HA.out i (by omega) h).1, nodup_of_take (fun i h => (HA.out i (by omega) h).2)⟩
      have HST := hid hst
      clear hbw hbz
      go_wp2
      clear b0 b1
      go_loopw [4] (fun i wq => ∃ k : Nat, k ≤ fs.length ∧ i = .int .i64 k ∧ (∀ j, j < k → (h : j < fs.length) → fs[j].fst ∈ ss ∧ fs[j].snd ∈ ss ∧ fs[j] ∉ fs.take j) ∧ Below (w.heap.size + 1) (w.alloc (.cells #[.slice (some ⟨g, o, none⟩) ss.length k1, .slice a2 fs.length k2] 26)) wq) (fun i _ => fs.length - (intOf i).toNat)
      case atStart => exact ⟨0, Nat.zero_le _, rfl, fun j hj => absurd hj (by omega), hbel⟩
      case round =>
        clear hbel HA hlt hk
        obtain ⟨m, hm, rfl, hall, hbel⟩ := hrel
        have HA := hid hall
        clear hall
        have hbw : Below w.heap.size w wr := ((Below.refl w.heap.size w).alloc (Nat.le_refl _) _).trans (hbel.mono (by omega))
        have hbz : w.heap.size + 1 ≤ wr.heap.size := by have := hbel.size; simpa using this
        have b0 : wr.cell? ⟨w.heap.size, 0, none⟩ = some (.slice (some ⟨g, o, none⟩) ss.length k1) := by rw [hbel.cell (p := ⟨w.heap.size, 0, none⟩) (Nat.lt_succ_self _)]; simp [go_sem]
        have b1 : wr.cell? ⟨w.heap.size, 1, none⟩ = some (.slice a2 fs.length k2) := by rw [hbel.cell (p := ⟨w.heap.size, 1, none⟩) (Nat.lt_succ_self _)]; simp [go_sem]
        by_cases hlt : m < fs.length
        · obtain ⟨g2, o2, rfl, hQ⟩ := HP.out.row (by omega)
          obtain ⟨c0, c1⟩ := (hQ.stay hbw (Nat.le_refl _)).2 m hlt
          have HQ := hid hQ
          clear hQ
          have hSl := fun d os => StrSl.stay (w := wr) (.inr ⟨g, o, k1, rfl, ⟨by omega, hc1⟩, HS.out.stay hbw (Nat.le_refl _)⟩) (below_regrown wr d os) (Nat.le_refl _)
          have cF := fun t d os => calls_below (l03At_any _ ss t _ (hSl d os) (by unfold maxLen; omega))
          clear hSl
          have HD := hid (fun (D : DefP ss fs) => D.2.fl m hlt)
          have HT := hid (fun (D : DefP ss fs) => nodup_take D.2.fd hlt)
          by_cases hf : fs[m].fst ∈ ss
          · have hF2 : decide (atI ss fs[m].fst < 0) = false := by have := atI_ge.2 hf; simp; omega
            have HFI := hid hf
            clear hf
            by_cases ht : fs[m].snd ∈ ss
            · have hT2 : decide (atI ss fs[m].snd < 0) = false := by have := atI_ge.2 ht; simp; omega
              have HTI := hid ht
              have HM := hid (show fs[m] = ⟨fs[m].fst, fs[m].snd⟩ from rfl)
              generalize fs[m].fst = q1 at *
              generalize fs[m].snd = q2 at *
              clear ht
              go_wp2
              have c0' := cell_regrown c0
              have c1' := cell_regrown c1
              have b0' := cell_regrown b0
              have b1' := cell_regrown b1
              have d1 := fun t d os => Calls.regrown_of (w := wr) (d := d) (os := os) (cF t d os)
              clear c0 c1 b0 b1 cF
              refine wp_region_quiet_below mixed (by kernel_rfl) ?_
              repeat (go_big_quiet_step ((go_at_call 77; exact d1 _ _ _)))
              refine wpQuiet_nil ?_
              intro _ hw'
              obtain ⟨⟨dq, osq⟩, hw''⟩ := hw'
              subst hw''
              have hbX := hbel.trans ((below_regrown wr dq osq).mono hbz)
              have hbY := hbw.trans ((below_regrown wr dq osq).mono hbw.size)
              clear c0' c1' b0' b1' d1 hbel hbw
              go_wp2
              clear hbY hbz hF2 hT2
              go_loopw [5] (fun i wr => ∃ k : Nat, k ≤ m ∧ i = .int .i64 k ∧ (∀ j, j < k → (h : j < fs.length) → fs[j] ≠ fs[m]) ∧ Below (w.heap.size + 1) (w.alloc (.cells #[.slice (some ⟨g, o, none⟩) ss.length k1, .slice (some ⟨g2, o2, none⟩) fs.length k2] 26)) wr) (fun i _ => m - (intOf i).toNat)
              case atStart => exact ⟨0, Nat.zero_le _, rfl, fun j hj => absurd hj (by omega), hbX⟩
              case round =>
                clear hbX
                obtain ⟨n, hn, rfl, hall, hbel⟩ := hrel
                have HB := hid hall
                clear hall
                have hbw : Below w.heap.size w wr := ((Below.refl w.heap.size w).alloc (Nat.le_refl _) _).trans (hbel.mono (by omega))
                have hbz : w.heap.size + 1 ≤ wr.heap.size := by have := hbel.size; simpa using this
                have b0 : wr.cell? ⟨w.heap.size, 0, none⟩ = some (.slice (some ⟨g, o, none⟩) ss.length k1) := by rw [hbel.cell (p := ⟨w.heap.size, 0, none⟩) (Nat.lt_succ_self _)]; simp [go_sem]
                have b1 : wr.cell? ⟨w.heap.size, 1, none⟩ = some (.slice (some ⟨g2, o2, none⟩) fs.length k2) := by rw [hbel.cell (p := ⟨w.heap.size, 1, none⟩) (Nat.lt_succ_self _)]; simp [go_sem]
                by_cases hl2 : n < m
                · have hln : n < fs.length := by omega
                  have hc := (HQ.out.stay hbw (Nat.le_refl _)).2 m hlt
                  rw [HM.out] at hc
                  obtain ⟨c0, c1⟩ := hc
                  obtain ⟨e0, e1⟩ := (HQ.out.stay hbw (Nat.le_refl _)).2 n hln
                  by_cases he : fs[n].fst = q1
                  · by_cases he2 : fs[n].snd = q2
                    · have HE := hid (show fs[n] = fs[m] from (pr_ext (b := ⟨q1, q2⟩) he he2).trans HM.out.symm)
                      rw [he] at e0
                      rw [he2] at e1
                      clear he he2
                      go_wp2
                      have c0' := cell_regrown c0
                      have c1' := cell_regrown c1
                      have e0' := cell_regrown e0
                      have e1' := cell_regrown e1
                      have b1' := cell_regrown b1
                      clear c0 c1 e0 e1 b0 b1
                      refine wp_region_quiet_below mixed (by kernel_rfl) ?_
                      repeat (go_big_quiet_step (fail))
                      refine wpQuiet_nil ?_
                      intro _ hw'
                      obtain ⟨⟨dq, osq⟩, hw''⟩ := hw'
                      subst hw''
                      have hbX := hbel.trans ((below_regrown wr dq osq).mono hbz)
                      have hbY := hbw.trans ((below_regrown wr dq osq).mono hbw.size)
                      clear c0' c1' e0' e1' b1' hbel hbw
                      go_wp2
                      go_ret
                      exact ⟨retB_f (fun D => HT.out D (by rw [← HE.out]; exact List.mem_take_iff_getElem.2 ⟨n, by omega, rfl⟩)), hbY⟩
                    · have HO := hid (ne_step (hk := hln) HB.out (fun e => he2 (congrArg Pr.snd (e.trans HM.out))))
                      have hne := str_ne he2
                      rw [he] at e0
                      generalize fs[n].snd = r2 at *
                      clear he he2
                      go_wp2
                      have c0' := cell_regrown c0
                      have c1' := cell_regrown c1
                      have e0' := cell_regrown e0
                      have e1' := cell_regrown e1
                      have b1' := cell_regrown b1
                      clear c0 c1 e0 e1 b0 b1
                      refine wp_region_quiet_below mixed (by kernel_rfl) ?_
                      repeat (go_big_quiet_step (fail))
                      refine wpQuiet_nil ?_
                      intro _ hw'
                      obtain ⟨⟨dq, osq⟩, hw''⟩ := hw'
                      subst hw''
                      have hbX := hbel.trans ((below_regrown wr dq osq).mono hbz)
                      have hbY := hbw.trans ((below_regrown wr dq osq).mono hbw.size)
                      clear c0' c1' e0' e1' b1' hbel hbw
                      go_wp2
                      go_roundw
                      case rel => exact ⟨n + 1, by omega, by go_num, HO.out, hbX⟩
                      case measure => simp [intOf]; omega
                  · have HO := hid (ne_step (hk := hln) HB.out (fun e => he (congrArg Pr.fst (e.trans HM.out))))
                    have hne := str_ne he
                    generalize fs[n].fst = r1 at *
                    generalize fs[n].snd = r2 at *
                    clear he
                    go_wp2
                    have c0' := cell_regrown c0
                    have c1' := cell_regrown c1
                    have e0' := cell_regrown e0
                    have e1' := cell_regrown e1
                    have b1' := cell_regrown b1
                    clear c0 c1 e0 e1 b0 b1
                    refine wp_region_quiet_below mixed (by kernel_rfl) ?_
                    repeat (go_big_quiet_step (fail))
                    refine wpQuiet_nil ?_
                    intro _ hw'
                    obtain ⟨⟨dq, osq⟩, hw''⟩ := hw'
                    subst hw''
                    have hbX := hbel.trans ((below_regrown wr dq osq).mono hbz)
                    have hbY := hbw.trans ((below_regrown wr dq osq).mono hbw.size)
                    clear c0' c1' e0' e1' b1' hbel hbw
                    go_wp2
                    go_roundw
                    case rel => exact ⟨n + 1, by omega, by go_num, HO.out, hbX⟩
                    case measure => simp [intOf]; omega
                · have HO := hid (show fs[m] ∉ fs.take m from fun h => by
                    obtain ⟨j, hj, e⟩ := List.mem_take_iff_getElem.1 h
                    exact HB.out j (by omega) (by omega) e)
                  have HMM := hid (show fs[m].fst ∈ ss ∧ fs[m].snd ∈ ss by rw [HM.out]; exact ⟨HFI.out, HTI.out⟩)
                  clear b0 b1
                  go_wp2
                  go_roundw
                  case rel => exact ⟨m + 1, by omega, by go_num, fun j hj h => by
                    by_cases e : j = m
                    · subst e; exact ⟨HMM.out.1, HMM.out.2, HO.out⟩
                    · exact HA.out j (by omega) h, hbel⟩
                  case measure => simp [intOf]; omega
            · have hT2 : decide (atI ss fs[m].snd < 0) = true := by rw [atI_out ht]; rfl
              have HM := hid ht
              generalize fs[m].fst = q1 at *
              generalize fs[m].snd = q2 at *
              clear ht
              go_wp2
              have c0' := cell_regrown c0
              have c1' := cell_regrown c1
              have b0' := cell_regrown b0
              have b1' := cell_regrown b1
              have d1 := fun t d os => Calls.regrown_of (w := wr) (d := d) (os := os) (cF t d os)
              clear c0 c1 b0 b1 cF
              refine wp_region_quiet_below mixed (by kernel_rfl) ?_
              repeat (go_big_quiet_step ((go_at_call 77; exact d1 _ _ _)))
              refine wpQuiet_nil ?_
              intro _ hw'
              obtain ⟨⟨dq, osq⟩, hw''⟩ := hw'
              subst hw''
              have hbX := hbel.trans ((below_regrown wr dq osq).mono hbz)
              have hbY := hbw.trans ((below_regrown wr dq osq).mono hbw.size)
              clear c0' c1' b0' b1' d1 hbel hbw
              go_wp2
              go_ret
              exact ⟨retB_f (fun D => HM.out (HD.out D).2), hbY⟩
          · have hF2 : decide (atI ss fs[m].fst < 0) = true := by rw [atI_out hf]; rfl
            have HM := hid hf
            generalize fs[m].fst = q1 at *
            generalize fs[m].snd = q2 at *
            clear hf
            go_wp2
            have c0' := cell_regrown c0
            have c1' := cell_regrown c1
            have b0' := cell_regrown b0
            have b1' := cell_regrown b1
            have d1 := fun t d os => Calls.regrown_of (w := wr) (d := d) (os := os) (cF t d os)
            clear c0 c1 b0 b1 cF
            refine wp_region_quiet_below mixed (by kernel_rfl) ?_
            repeat (go_big_quiet_step ((go_at_call 77; exact d1 _ _ _)))
            refine wpQuiet_nil ?_
            intro _ hw'
            obtain ⟨⟨dq, osq⟩, hw''⟩ := hw'
            subst hw''
            have hbX := hbel.trans ((below_regrown wr dq osq).mono hbz)
            have hbY := hbw.trans ((below_regrown wr dq osq).mono hbw.size)
            clear c0' c1' b0' b1' d1 hbel hbw
            go_wp2
            go_ret
            exact ⟨retB_f (fun D => HM.out (HD.out D).1), hbY⟩
        · have hfl : FlowsP ss fs := ⟨p3, fun i h => ⟨(HA.out i (by omega) h).1, (HA.out i (by omega) h).2.1⟩, nodup_of_take (fun i h => (HA.out i (by omega) h).2.2)⟩
          have HFL := hid hfl
          clear hfl
          go_wp2
          go_ret
          exact ⟨retB_t ⟨HST.out, HFL.out⟩, hbw⟩
theorem specDefRight_any (a1 a2 : Option Addr) (k1 k2 : Nat) (ss : List ByteArray) (fs : List Pr) (w : World) (h1 : StrSl w (.slice a1 ss.length k1) ss) (h2 : PrSl w (.slice a2 fs.length k2) fs) (hF : ∀ i, (h : i < ss.length) → ss[i].size ≤ maxLen) (n1 : ss.length ≤ maxLen) (n2 : fs.length ≤ maxLen) :
    Calls Tryz.prog 46 #[.agg #[.slice a1 ss.length k1, .slice a2 fs.length k2]] w fun e w' => RetB e (DefP ss fs) ∧ Below w.heap.size w w' := by
  by_cases h : ss.length < 1 ∨ 12 < ss.length ∨ 40 < fs.length
  · refine (specDefRight_no a1 a2 k1 k2 ss fs w n1 n2 h).mono ?_
    rintro e w' ⟨rfl, hb⟩
    exact ⟨retB_f (fun D => by have := D.1.n1; have := D.1.n2; have := D.2.m; omega), hb⟩
  · obtain ⟨g, o, rfl, hR⟩ := h1.row (by omega)
    exact specDefRight_go g o k1 a2 k2 ss fs w hR h2 hF h1.cap (by omega) (by omega) (by omega)
end Go.Proofs.YthggcdadipjiiaaGreatDoor
