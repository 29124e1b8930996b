/-
  The law FnDurations, walked: it answers true.
-/
import Derived.Test.YthggcdadipjiiaaGreatDoorZDuH3
import Derived.Test.YthggcdadipjiiaaGreatDoorZImSO4
import Derived.Test.YthggcdadipjiiaaGreatDoorZDuL6
import Derived.Test.YthggcdadipjiiaaGreatDoorZDrHd2
import Derived.Deep.QuietTactic
import Derived.BigQuiet
import Derived.Deep.CutRange
namespace Go.Proofs.YthggcdadipjiiaaGreatDoor
open Go.RowKit Go.Sort
set_option linter.unusedVariables false

theorem nS_take {k : Nat} {l : List Ev} (h : k < l.length) (q : Int) (s : ByteArray) : nS q s (l.take (k + 1)) = nS q s (l.take k) + if l[k].kind = q ∧ l[k].step = s then 1 else 0 := by
  rw [List.take_succ_eq_append_getElem h]
  unfold nS
  rw [List.countP_append]
  by_cases h1 : l[k].kind = q <;> by_cases h2 : l[k].step = s <;> simp [h1, h2]
set_option maxRecDepth 100000 in
set_option maxHeartbeats 8000000 in
theorem fnDurations_walk (p : Option Addr) (n c : Nat) (w : World) (h : Bs w (.slice p n c) n) (hn : (n : Int) ≤ 1048576) (e0 e1 e2 e3 e4 : Addr) (hEr : ErrsAt w e0 e1 e2 e3 e4) :
    Calls Tryz.prog 3 #[.slice p n c] w fun e w' => e = .returned (.bool true) ∧ Below w.heap.size w w' := by
  have mixed : Tryz.prog.follows .mixedOrders = true := by kernel_rfl
  have HER := hid hEr
  have H := hid h
  clear hEr h
  go_enter Tryz.func3, Tryz.ntmps3
  go_wp2_with fail
  refine (drawDurations_any _ n w H.out).mono ?_
  rintro e W1 ⟨u1, u2, v, ss, fs, l, rfl, hl, hD⟩
  obtain ⟨a1, k1, rfl⟩ := ownB_form hD.o1
  obtain ⟨a2, k2, rfl⟩ := ownB_form hD.o2
  obtain ⟨al, kl, rfl⟩ := ownB_form hD.ol
  obtain ⟨L, hL, hL2⟩ := duAns ss fs l
  have F1 := hid (show ∀ i, (h : i < ss.length) → ss[i].size ≤ maxLen from fun i h => by have := hD.sh.1 _ (List.getElem_mem h); unfold maxLen; omega)
  have F2 := hid (show FitP fs from fun i h => by have := hD.sh.2 _ (List.getElem_mem h); unfold maxLen; omega)
  have FE := hid (show Fit l from fun i h => by have := hD.se _ (List.getElem_mem h); exact ⟨by have := this.1; unfold maxLen; omega, by have := this.2; unfold maxLen; omega⟩)
  have N1 := hid (show ss.length ≤ maxLen by have := hD.len; unfold maxLen; omega)
  have N2 := hid (show fs.length ≤ maxLen by have := hD.len; unfold maxLen; omega)
  have N3 := hid (show l.length ≤ maxLen by unfold maxLen; omega)
  have hb2 : Below W1.heap.size W1 (W1.alloc (.cells #[.slice a1 ss.length k1, .slice a2 fs.length k2] 26)) := (Below.refl _ _).alloc (Nat.le_refl _) _
  have hc := heap_alloc_new W1 (.cells #[.slice a1 ss.length k1, .slice a2 fs.length k2] 26)
  have B2 := hid (hD.bl.trans (hb2.mono hD.bl.size))
  have D2 := hid (show DefSl (W1.alloc (.cells #[.slice a1 ss.length k1, .slice a2 fs.length k2] 26)) a1 a2 k1 k2 ss fs from ⟨(str_of_own hD.o1).stay hb2 (Nat.le_refl _), (pr_of_own hD.o2).stay hb2 (Nat.le_refl _), fun g o e => Nat.lt_of_lt_of_le (hD.o1.lt g (by rw [e]; rfl)).2 hb2.size, fun g o e => Nat.lt_of_lt_of_le (hD.o2.lt g (by rw [e]; rfl)).2 hb2.size⟩)
  have E2 := hid ((sl_of_own hD.ol).stay hb2 (Nat.le_refl _))
  have HC2 := hid hc
  have HL := hid hL
  clear hD hb2 H hc hL
  go_upto_region 4 with fail
  generalize W1.alloc (.cells #[.slice a1 ss.length k1, .slice a2 fs.length k2] 26) = W2 at *
  generalize W1.heap.size = gd at *
  have d0 : W2.cell? ⟨gd, 0, none⟩ = some (.slice a1 ss.length k1) := by rw [Lib.cell_of_heap HC2.out]; rfl
  have d1 : W2.cell? ⟨gd, 1, none⟩ = some (.slice a2 fs.length k2) := by rw [Lib.cell_of_heap HC2.out]; rfl
  go_wp2_with fail
  refine (implDurations_any a1 a2 al k1 k2 kl ss fs l L HL.out W2 D2.out E2.out F1.out F2.out FE.out N1.out N2.out N3.out e0 e1 e2 e3 e4 (HER.out.stay B2.out)).mono ?_
  rintro e W3 ⟨vg, rfl, hR3, hb3⟩
  have HC3 := hid ((hb3.block _ (lt_heap HC2.out)).trans HC2.out)
  have B3 := hid (B2.out.trans (hb3.mono B2.out.size))
  have D3 := hid (D2.out.stay hb3)
  have E3 := hid (E2.out.stay hb3 (Nat.le_refl _))
  have R3 := hid hR3
  clear hR3 hb3 d0 d1 D2 E2 HC2 B2
  have d0 : W3.cell? ⟨gd, 0, none⟩ = some (.slice a1 ss.length k1) := by rw [Lib.cell_of_heap HC3.out]; rfl
  have d1 : W3.cell? ⟨gd, 1, none⟩ = some (.slice a2 fs.length k2) := by rw [Lib.cell_of_heap HC3.out]; rfl
  go_wp2_with fail
  refine (specDurations_any a1 a2 al k1 k2 kl ss fs l L HL.out W3 D3.out E3.out F1.out FE.out N1.out N2.out N3.out).mono ?_
  rintro e W4 ⟨vs, rfl, hR4, hb4⟩
  have B4 := hid (B3.out.trans (hb4.mono B3.out.size))
  have E4 := hid (E3.out.stay hb4 (Nat.le_refl _))
  have R4 := hid (R3.out.stay hb4)
  have S4 := hid hR4
  clear hR4 hb4 d0 d1 D3 E3 HC3 B3 R3 F1 F2 FE N1 N2 N3 HER
  have hlz : l.length ≤ 40 := hl
  rcases R4.out.durs with ⟨h0, ag, cg, rfl⟩ | ⟨h0, gx, cg, rfl, hX⟩
  · obtain ⟨aw, cs, rfl⟩ := S4.out.2.1
    subst h0
    clear R4 S4 HL
    go_wp2_with fail
    go_loopw [7] (fun i wr => i = .int .i64 0 ∧ wr = W4) (fun _ _ => 0)
    case atStart => exact ⟨rfl, rfl⟩
    case round =>
      obtain ⟨rfl, rfl⟩ := hrel
      go_wp2
      go_ret
      exact ⟨rfl, B4.out⟩
  · rcases S4.out.durs with ⟨h, _⟩ | ⟨_, gy, cs, rfl, hY⟩
    · rw [h] at h0; simp at h0
    have HP : HistP ss fs l := Classical.byContradiction fun hn => by rw [HL.out.2 hn] at h0; simp at h0
    have HLW := hid (show ∀ i, (h : i < L.length) → DurLw l L[i] from fun i h => durs_law HP _ (by rw [← HL.out.1 HP]; exact List.getElem_mem h))
    have HRI := hid (show ∀ i, (h : i < L.length) → 0 < i → Op.bytesLess (L[i - 1]'(by omega)).step.toList L[i].step.toList = true from fun i h h0 => by
      have hr := (dursI_is l l.length).rise
      rw [← HL.out.1 HP, List.pairwise_iff_getElem] at hr
      exact hr (i - 1) i (by omega) h (by omega))
    have X4 := hid hX
    have Y4 := hid hY
    clear hX hY R4 S4 HL HP
    go_wp2_with fail
    go_loopw [7] (fun i wr => ∃ k : Nat, k ≤ L.length ∧ i = .int .i64 k ∧ Below W4.heap.size W4 wr) (fun i _ => L.length - (intOf i).toNat)
    case atStart => exact ⟨0, Nat.zero_le _, rfl, Below.refl _ _⟩
    case round =>
      obtain ⟨i, hi, rfl, hbw⟩ := hrel
      have HBW := hid hbw
      clear hbw
      by_cases hlt : i < L.length
      · have hlw := HLW.out i hlt
        have hri := HRI.out i hlt
        obtain ⟨x0, x1, x2, x3, x4⟩ := (X4.out.stay HBW.out (Nat.le_refl _)).el hlt
        simp only [Nat.zero_add] at x0 x1 x2 x3 x4
        have HX := hid (And.intro x1 (And.intro x2 (And.intro x3 x4)))
        obtain ⟨W5, rfl⟩ : ∃ q, q = wr := ⟨_, rfl⟩
        have HZ := hid x0
        have HLI := hid hlw
        have HRR := hid hri
        have hgx : gx < W5.heap.size := Nat.lt_of_lt_of_le X4.out.1 HBW.out.size
        clear x0 x1 x2 x3 x4 hlw hri
        have hzi : (0 : Int) ≤ (i : Int) := by omega
        have hzl : (i : Int) < (L.length : Int) := by omega
        go_wp2_with fail
        go_loopw [8, 9] (fun nv kv wk => ∃ k : Nat, k ≤ l.length ∧ kv = .int .i64 k ∧ nv = .int .i64 (nS 3 L[i].step (l.take k) : Nat) ∧ Below W5.heap.size W5 wk) (fun _ kv _ => l.length - (intOf kv).toNat)
        case atStart => exact ⟨0, Nat.zero_le _, rfl, by simp [nS], Below.refl _ _⟩
        case round =>
          obtain ⟨k, hk, rfl, rfl, hbk⟩ := hrel
          have HBK := hid hbk
          have HB9 := hid (HBW.out.trans (hbk.mono HBW.out.size))
          clear hbk
          have x0 := (HBK.out.cell (p := ⟨gx, i * 5, none⟩) hgx).trans HZ.out
          by_cases hkl : k < l.length
          · obtain ⟨ge, oe, rfl, hE⟩ := E4.out.row (by omega)
            obtain ⟨_, _, _, y3, y4, _⟩ := (hE.stay HB9.out (Nat.le_refl _)).2 k hkl
            have HT := hid (nS_take hkl 3 L[i].step)
            have hcn : nS 3 L[i].step (l.take k) ≤ 40 := Nat.le_trans List.countP_le_length (by rw [List.length_take]; omega)
            clear hE
            generalize nS 3 L[i].step (l.take k) = N at *
            generalize l[k].kind = kd at *
            generalize l[k].step = st at *
            generalize L[i].step = s at *
            have q1 : (0 : Int) ≤ (k : Int) := by omega
            have q2 : (k : Int) < (l.length : Int) := by omega
            have hw : IntKind.i64.wrap ((N : Int) + 1) = (N : Int) + 1 := by rw [IntKind.wrap_i64]; omega
            by_cases hk3 : kd = 3
            · subst hk3
              by_cases hss : st = s
              · subst hss
                have hT := HT.out
                rw [if_pos ⟨rfl, rfl⟩] at hT
                have hbb : (st.toList == st.toList) = true := by simp
                go_wp2_with fail
                go_quiet (fail)
                go_wp2
                go_roundw
                case rel => exact ⟨k + 1, by omega, by go_num, by rw [hT]; go_num, HBK.out.trans (bel_dn (Below.refl _ _) nq |>.mono HBK.out.size)⟩
                case measure => simp [intOf]; omega
              · have hT := HT.out
                rw [if_neg (fun h => hss h.2), Nat.add_zero] at hT
                have hbb : (st.toList == s.toList) = false := beq_eq_false_iff_ne.2 fun h => hss (toList_inj h)
                go_wp2_with fail
                go_quiet (fail)
                go_wp2
                go_roundw
                case rel => exact ⟨k + 1, by omega, by go_num, (congrArg (fun q : Nat => Value.int .i64 (q : Int)) hT).symm, HBK.out.trans (bel_dn (Below.refl _ _) nq |>.mono HBK.out.size)⟩
                case measure => simp [intOf]; omega
            · have hT := HT.out
              rw [if_neg (fun h => hk3 h.1), Nat.add_zero] at hT
              have hbb : (kd == 3) = false := beq_eq_false_iff_ne.2 hk3
              go_wp2_with fail
              go_quiet (fail)
              go_wp2
              go_roundw
              case rel => exact ⟨k + 1, by omega, by go_num, (congrArg (fun q : Nat => Value.int .i64 (q : Int)) hT).symm, HBK.out.trans (bel_dn (Below.refl _ _) nq |>.mono HBK.out.size)⟩
              case measure => simp [intOf]; omega
          · obtain rfl : k = l.length := by omega
            rw [List.take_length]
            have hlw := HLI.out
            obtain ⟨z1, z2, z3, z4⟩ := HX.out
            have x1 := (HBK.out.cell (p := ⟨gx, i * 5 + 1, none⟩) hgx).trans z1
            have x2 := (HBK.out.cell (p := ⟨gx, i * 5 + 2, none⟩) hgx).trans z2
            have x3 := (HBK.out.cell (p := ⟨gx, i * 5 + 3, none⟩) hgx).trans z3
            have x4 := (HBK.out.cell (p := ⟨gx, i * 5 + 4, none⟩) hgx).trans z4
            obtain ⟨y0, y1, y2, y3, y4⟩ := (Y4.out.stay HB9.out (Nat.le_refl _)).el hlt
            simp only [Nat.zero_add] at y0 y1 y2 y3 y4
            clear z1 z2 z3 z4
            have n1 := hlw.n
            have n2 := hlw.n0
            have n3 := hlw.n1
            have n4 := hlw.l0
            have n5 := hlw.m0
            have n6 := hlw.m1
            have n7 := hlw.s0
            have n8 := hlw.s1
            have n9 := hlw.p0
            have n10 := hlw.p1
            rw [← n1]
            have xp : (h0 : 0 < i) → wr.cell? ⟨gx, (i - 1) * 5, none⟩ = some (.string (L[i - 1]'(by omega)).step) := fun h0 => by
              have := ((X4.out.stay HB9.out (Nat.le_refl _)).el (k := i - 1) (by omega)).1
              simpa only [Nat.zero_add] using this
            have HXP := hid xp
            clear hlw HLI HX HZ HLW HRI xp n1
            by_cases hi0 : 0 < i
            · have hrp := HRR.out hi0
              have xq := HXP.out hi0
              generalize (L[i - 1]'(by omega)).step = sp at *
              clear HRR HXP
              obtain ⟨j, hj⟩ : ∃ j, i - 1 = j := ⟨_, rfl⟩
              rw [hj] at xq
              have hwi : IntKind.i64.wrap ((i : Int) - 1) = (j : Int) := by rw [IntKind.wrap_i64]; omega
              have hdi : decide ((i : Int) > 0) = true := decide_eq_true (by omega)
              have g1 : (0 : Int) ≤ (j : Int) := by omega
              have g2 : (j : Int) < (L.length : Int) := by omega
              generalize L[i].step = s at *
              generalize L[i].count = cn at *
              generalize L[i].sum = sm at *
              generalize L[i].least = le at *
              generalize L[i].most = mo at *
              have m1 : (cn == 0) = false := by simp; omega
              have m2 : decide (le < 0) = false := decide_eq_false (by omega)
              have m3 : decide (le > mo) = false := decide_eq_false (by omega)
              have m4 : IntKind.i64.wrap (cn * le) = cn * le := by rw [IntKind.wrap_i64]; omega
              have m5 : IntKind.i64.wrap (cn * mo) = cn * mo := by rw [IntKind.wrap_i64]; omega
              have m6 : decide (sm < cn * le) = false := decide_eq_false (by omega)
              have m7 : decide (sm > cn * mo) = false := decide_eq_false (by omega)
              go_wp2_with fail
              dsimp only [List.append]
              refine wp_region_quiet_ssa mixed 62 (by kernel_rfl) ?_
              repeat (go_big_quiet_step (fail))
              refine wpQuiet_nil ?_
              intro _ hw'
              obtain ⟨nq, hw''⟩ := hw'
              subst hw''
              go_wp2
              go_roundw
              case rel => exact ⟨i + 1, by omega, by go_num, HB9.out.trans (bel_dn (Below.refl _ _) nq |>.mono HB9.out.size)⟩
              case measure => simp [intOf]; omega
            · have hdi : decide ((i : Int) > 0) = false := decide_eq_false (by omega)
              clear HRR HXP
              generalize L[i].step = s at *
              generalize L[i].count = cn at *
              generalize L[i].sum = sm at *
              generalize L[i].least = le at *
              generalize L[i].most = mo at *
              have m1 : (cn == 0) = false := by simp; omega
              have m2 : decide (le < 0) = false := decide_eq_false (by omega)
              have m3 : decide (le > mo) = false := decide_eq_false (by omega)
              have m4 : IntKind.i64.wrap (cn * le) = cn * le := by rw [IntKind.wrap_i64]; omega
              have m5 : IntKind.i64.wrap (cn * mo) = cn * mo := by rw [IntKind.wrap_i64]; omega
              have m6 : decide (sm < cn * le) = false := decide_eq_false (by omega)
              have m7 : decide (sm > cn * mo) = false := decide_eq_false (by omega)
              go_wp2_with fail
              dsimp only [List.append]
              refine wp_region_quiet_ssa mixed 62 (by kernel_rfl) ?_
              repeat (go_big_quiet_step (fail))
              refine wpQuiet_nil ?_
              intro _ hw'
              obtain ⟨nq, hw''⟩ := hw'
              subst hw''
              go_wp2
              go_roundw
              case rel => exact ⟨i + 1, by omega, by go_num, HB9.out.trans (bel_dn (Below.refl _ _) nq |>.mono HB9.out.size)⟩
              case measure => simp [intOf]; omega
      · go_wp2
        go_ret
        exact ⟨rfl, B4.out.trans (HBW.out.mono B4.out.size)⟩
end Go.Proofs.YthggcdadipjiiaaGreatDoor
