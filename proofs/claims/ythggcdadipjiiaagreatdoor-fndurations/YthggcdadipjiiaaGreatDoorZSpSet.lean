/-
  What spec.l03Set answers: a pair set among others, in a new row: a contract over the seat's program.
-/
import Derived.Test.YthggcdadipjiiaaGreatDoorZSpOut6
import Derived.BigQuiet
import Derived.Lib.QuietBelow
namespace Go.Proofs.YthggcdadipjiiaaGreatDoor
open Go.RowKit Go.Sort

/-- How many pairs at the head have a lesser name. -/
def kV (l : List Pr) (t : ByteArray) : Nat := (l.takeWhile (fun p => lt p.fst t)).length
theorem kV_is {l : List Pr} {t : ByteArray} {k : Nat} (hk : k ≤ l.length) (h1 : ∀ j, j < k → (h : j < l.length) → lt l[j].fst t = true) (h2 : (h : k < l.length) → lt l[k].fst t = false) : kV l t = k := by
  unfold kV
  have e : l.takeWhile (fun p => lt p.fst t) = l.take k := by
    conv => lhs; rw [← List.take_append_drop k l]
    rw [List.takeWhile_append_of_pos (fun a ha => by
      obtain ⟨j, hj, rfl⟩ := List.mem_take_iff_getElem.1 ha
      exact h1 j (by omega) (by omega))]
    by_cases hlt : k < l.length
    · rw [List.drop_eq_getElem_cons hlt, List.takeWhile_cons_of_neg (by rw [h2 hlt]; simp)]; simp
    · rw [List.drop_eq_nil_of_le (by omega)]; simp
  rw [e, List.length_take]; omega
/-- Where the rest begins. -/
def nV (l : List Pr) (t : ByteArray) : Nat := match l[kV l t]? with | some p => if p.fst = t then kV l t + 1 else kV l t | none => kV l t
def setV (l : List Pr) (v : Pr) : List Pr := l.take (kV l v.fst) ++ [v] ++ l.drop (nV l v.fst)

theorem prs_cells_to {w : World} {g o : Nat} {l : List Pr} (h : PrsAt w g o l) (k : Nat) : ∀ j u, ((l.take k).flatMap Pr.cells)[j]? = some u → w.cell? ((⟨g, o, none⟩ : Addr).add j) = some u := by
  intro j u hj
  rw [Addr.add_lit]
  refine PrsAt.cell (ps := l.take k) ⟨h.1, fun i hi => ?_⟩ j u hj
  rw [List.getElem_take]
  exact h.2 i (by rw [List.length_take] at hi; omega)
theorem prs_cells_from {w : World} {g o : Nat} {l : List Pr} (h : PrsAt w g o l) (k : Nat) : ∀ j u, ((l.drop k).flatMap Pr.cells)[j]? = some u → w.cell? ((⟨g, o + k * 2, none⟩ : Addr).add j) = some u := by
  intro j u hj
  rw [Addr.add_lit]
  refine PrsAt.cell (ps := l.drop k) ⟨h.1, fun i hi => ?_⟩ j u hj
  rw [List.getElem_drop, Nat.add_assoc, ← Nat.add_mul]
  exact h.2 (k + i) (by rw [List.length_drop] at hi; omega)
theorem two_one (v : Pr) : ∀ u ∈ [Value.string v.fst, .string v.snd], u.oneCell' = true := by
  intro u hu
  simp at hu
  rcases hu with rfl | rfl <;> rfl
theorem cell_two_new (w : World) (x y : Value) (t : TypeId) : ∀ j u, [x, y][j]? = some u → (w.alloc (.cells #[x, y] t)).cell? ((⟨w.heap.size, 0, none⟩ : Addr).add j) = some u := by
  intro j u hj
  rw [Addr.add_lit]
  rcases j with _ | _ | j
  · simp at hj; subst hj; simp [go_sem]
  · simp at hj; subst hj; simp [go_sem]
  · simp at hj

set_option maxRecDepth 100000 in
set_option maxHeartbeats 4000000 in
theorem l03Set_row (g o c : Nat) (l : List Pr) (v : Pr) (w : World) (hE : PrsAt w g o l) (hc : l.length ≤ c) (hn : l.length ≤ 1048576) (hcm : c ≤ maxLen) :
    Calls Tryz.prog 99 #[.slice (some ⟨g, o, none⟩) l.length c, .agg #[.string v.fst, .string v.snd]] w fun e w' => ∃ a n, e = .returned (.slice a (setV l v).length n) ∧ w'.ownsRow w.heap.size 138 2 (.slice a (setV l v).length n) (setV l v).length ((setV l v).flatMap Pr.cells) ∧ Below w.heap.size w w' := by
  obtain ⟨j0, hj, hj0, hj1, hj2⟩ := info_parts Tryz.infoVar
  unfold maxLen at hcm
  have mixed : Tryz.prog.follows .mixedOrders = true := by kernel_rfl
  have HB0 := hid ((Below.refl w.heap.size w).alloc (Nat.le_refl _) (.cells #[.string v.fst, .string v.snd] 138))
  have HE := hid (hE.stay HB0.out (Nat.le_refl _))
  clear hE
  have d0 : (w.alloc (.cells #[.string v.fst, .string v.snd] 138)).cell? ⟨w.heap.size, 0, none⟩ = some (.string v.fst) := by simp [go_sem]
  have d1 : (w.alloc (.cells #[.string v.fst, .string v.snd] 138)).cell? ⟨w.heap.size, 1, none⟩ = some (.string v.snd) := by simp [go_sem]
  have HD := hid (And.intro d0 d1)
  clear d0 d1
  go_enter Tryz.func99, Tryz.ntmps99
  go_wp2
  go_loopw [5] (fun i wr => ∃ k : Nat, k ≤ l.length ∧ i = .int .i64 k ∧ (∀ j, j < k → (h : j < l.length) → lt l[j].fst v.fst = true) ∧ Below (w.heap.size + 1) (w.alloc (.cells #[.string v.fst, .string v.snd] 138)) wr) (fun i _ => l.length - (intOf i).toNat)
  case atStart => exact ⟨0, Nat.zero_le _, rfl, fun j hj => absurd hj (by omega), Below.refl _ _⟩
  case round =>
    obtain ⟨k, hk, rfl, hall, hbel⟩ := hrel
    have HA := hid hall
    clear hall
    have fin : k ≤ c := by omega
    have e0 : wr.cell? ⟨w.heap.size, 0, none⟩ = some (.string v.fst) := (hbel.cell (p := ⟨w.heap.size, 0, none⟩) (by show w.heap.size < w.heap.size + 1; omega)).trans HD.out.1
    have e1 : wr.cell? ⟨w.heap.size, 1, none⟩ = some (.string v.snd) := (hbel.cell (p := ⟨w.heap.size, 1, none⟩) (by show w.heap.size < w.heap.size + 1; omega)).trans HD.out.2
    have HX := hid (HE.out.stay hbel (by simp))
    have HB := hid hbel
    clear hbel
    by_cases hlt : k < l.length
    · obtain ⟨c0, c1⟩ := HX.out.2 k hlt
      by_cases hb : Op.bytesLess l[k].fst.toList v.fst.toList = true
      · have HO := hid (show ∀ j, j < k + 1 → (h : j < l.length) → lt l[j].fst v.fst = true from fun j hj h => by
          by_cases e : j = k
          · subst e; exact hb
          · exact HA.out j (by omega) h)
        generalize l[k].fst = q1 at *
        generalize l[k].snd = q2 at *
        have hz := HB.out.size
        simp at hz
        go_wp2
        have c0' := cell_regrown c0
        have e0' := cell_regrown e0
        clear c0 c1 e0 e1
        refine wp_region_quiet_below mixed (by kernel_rfl) ?_
        repeat (go_big_quiet_step (fail))
        refine wpQuiet_nil ?_
        intro _ hw'
        obtain ⟨⟨dq, osq⟩, hw''⟩ := hw'
        subst hw''
        have hbX := HB.out.trans ((below_regrown wr dq osq).mono hz)
        clear c0' e0'
        go_wp2
        go_round
        case rel => exact ⟨k + 1, by omega, by go_num, HO.out, hbX⟩
        case measure => simp [intOf]; omega
      · by_cases hq : l[k].fst = v.fst
        · have HC := hid (fun W (hW : PrsAt W g o l) => (show W.cell? ⟨g, o + k * 2, none⟩ = some (.string v.fst) by rw [(hW.2 k hlt).c0, hq]))
          have hz : w.heap.size + 1 ≤ wr.heap.size := by have := HB.out.size; simpa using this
          have HM := hid (show kV l v.fst = k from kV_is hk HA.out (fun _ => by unfold lt; rw [hq]; exact less_irr _))
          have HN := hid (show nV l v.fst = k + 1 by unfold nV; rw [HM.out, List.getElem?_eq_getElem hlt]; show (if l[k].fst = v.fst then _ else _) = _; rw [if_pos hq])
          rw [hq] at c0 hb
          clear hq hb
          have hb : Op.bytesLess v.fst.toList v.fst.toList = false := less_irr _
          obtain ⟨P1, hP1⟩ : ∃ P1 : List Value, P1 = (l.take k).flatMap Pr.cells := ⟨_, rfl⟩
          obtain ⟨P3, hP3⟩ : ∃ P3 : List Value, P3 = (l.drop (k + 1)).flatMap Pr.cells := ⟨_, rfl⟩
          have L1 := hid (show P1.length = k * 2 by rw [hP1, pflat_len, List.length_take, Nat.min_eq_left hk])
          have L3 := hid (show P3.length = (l.length - (k + 1)) * 2 by rw [hP3, pflat_len, List.length_drop])
          have O1 := hid (show ∀ u ∈ P1, u.oneCell' = true by rw [hP1]; exact prs_one _)
          have O3 := hid (show ∀ u ∈ P3, u.oneCell' = true by rw [hP3]; exact prs_one _)
          have D1 := hid (fun W (hW : PrsAt W g o l) => (show ∀ j u, P1[j]? = some u → W.cell? ((⟨g, o, none⟩ : Addr).add j) = some u by rw [hP1]; exact prs_cells_to hW k))
          obtain ⟨A, hA, hD3⟩ : ∃ A : Addr, (if c = k + 1 then some (⟨g, o, none⟩ : Addr) else some ⟨g, o + (k + 1) * 2, none⟩) = some A ∧ ∀ W, PrsAt W g o l → ∀ j u, P3[j]? = some u → W.cell? (A.add j) = some u := by
            by_cases hck : c = k + 1
            · exact ⟨_, if_pos hck, fun W _ j u h => by rw [hP3, List.drop_eq_nil_of_le (by omega)] at h; simp at h⟩
            · exact ⟨_, if_neg hck, fun W hW => by rw [hP3]; exact prs_cells_from hW (k + 1)⟩
          have D3 := hid hD3
          have HP := hid (show P1 ++ Value.string v.fst :: Value.string v.snd :: P3 = (setV l v).flatMap Pr.cells by rw [hP1, hP3]; unfold setV; rw [HM.out, HN.out]; simp [Pr.cells])
          have HPL := hid (show k + 1 + (l.length - (k + 1)) = (setV l v).length by unfold setV; rw [HM.out, HN.out]; simp; omega)
          clear hP1 hP3 hD3 HM HN
          clear c1 e1
          go_wp2
          have c0' := cell_regrown c0
          have e0' := cell_regrown e0
          clear c0 e0
          refine wp_region_quiet_below mixed (by kernel_rfl) ?_
          repeat (go_big_quiet_step (fail))
          refine wpQuiet_nil ?_
          intro wq hw'
          have HRwq := hid (show Below wr.heap.size wr wq by obtain ⟨⟨dq, osq⟩, hw''⟩ := hw'; subst hw''; exact below_regrown wr dq osq)
          clear hw' c0' e0'
          have HBq := hid (HB.out.trans (HRwq.out.mono hz))
          have hzq : w.heap.size + 1 ≤ wq.heap.size := by have := HRwq.out.size; omega
          have hown0 := own_made2 wq 138
          go_wp2_with (first | (at_builtin; refine wpList_append_own _ rfl _ _ 89 rfl wq.heap.size 138 j0 _ 2 32 Tryz.underlying89 hj hj0 hj1 hj2 rfl (by decide) _ _ _ rfl hown0 ⟨g, o, none⟩ k _ P1 rfl L1.out ?c1 O1.out ?c3 ?c4 (by simp) ?_) | fail)
          case c1 => exact D1.out _ (HE.out.stay (HBq.out.alloc hzq _) (by simp))
          case c3 => unfold maxLen; omega
          case c4 => omega
          intro v1 w1 hown1 hg1 _
          have HB1 := hid (((Below.refl wq.heap.size wq).alloc (Nat.le_refl _) (.cells #[] 138)).grown hg1 (by simp) (fun j hj => (hown0.lt j hj).1))
          obtain ⟨a1, k1, rfl⟩ := ownB_form hown1
          have HO1 := hid hown1
          have hz1' := HB1.out.size
          clear hown0 hown1 hg1
          have HB1w := hid (HBq.out.trans (HB1.out.mono hzq))
          have f0 : w1.cell? ⟨w.heap.size, 0, none⟩ = some (.string v.fst) := (HB1w.out.cell (p := ⟨w.heap.size, 0, none⟩) (by show w.heap.size < w.heap.size + 1; omega)).trans HD.out.1
          have f1 : w1.cell? ⟨w.heap.size, 1, none⟩ = some (.string v.snd) := (HB1w.out.cell (p := ⟨w.heap.size, 1, none⟩) (by show w.heap.size < w.heap.size + 1; omega)).trans HD.out.2
          go_wp2_with (first | (at_builtin; refine wpList_append_own _ rfl _ _ 89 rfl wq.heap.size 138 j0 _ 2 32 Tryz.underlying89 hj hj0 hj1 hj2 rfl (by decide) _ _ _ rfl (HO1.out.alloc _) ⟨w1.heap.size, 0, none⟩ 1 1 [.string v.fst, .string v.snd] rfl rfl ?c1 (two_one v) ?c3 ?c4 (by simp; omega) ?_) | fail)
          case c1 => exact cell_two_new _ _ _ _
          case c3 => unfold maxLen; omega
          case c4 => omega
          intro v2 w2 hown2 hg2 _
          have HB2 := hid ((HB1.out.alloc hz1' (.cells #[.string v.fst, .string v.snd] 138)).grown hg2 (by simp; omega) (fun j hj => (HO1.out.lt j hj).1))
          obtain ⟨a2, k2, rfl⟩ := ownB_form hown2
          have HO2 := hid hown2
          have hz2' := HB2.out.size
          clear hown2 hg2 HO1 HB1 f0 f1 HB1w
          have HB2w := hid (HBq.out.trans (HB2.out.mono hzq))
          have e2 : w2.cell? ⟨w.heap.size, 0, none⟩ = some (.string v.fst) := (HB2w.out.cell (p := ⟨w.heap.size, 0, none⟩) (by show w.heap.size < w.heap.size + 1; omega)).trans HD.out.1
          have c2 : w2.cell? ⟨g, o + k * 2, none⟩ = some (.string v.fst) := HC.out w2 (HE.out.stay HB2w.out (by simp))
          go_wp2
          have c2' := cell_regrown c2
          have e2' := cell_regrown e2
          clear c2 e2
          refine wp_region_quiet_below mixed (by kernel_rfl) ?_
          repeat (go_big_quiet_step (fail))
          refine wpQuiet_nil ?_
          intro w3 hw'
          have HRw3 := hid (show Below w2.heap.size w2 w3 by obtain ⟨⟨dq, osq⟩, hw''⟩ := hw'; subst hw''; exact below_regrown w2 dq osq)
          clear hw' c2' e2'
          have HB3 := hid (HB2.out.trans (HRw3.out.mono hz2'))
          have hz3' := HB3.out.size
          have HO3 := hid (ownB_stay HO2.out HRw3.out)
          clear HO2 HB2 HB2w
          have HB3w := hid (HBq.out.trans (HB3.out.mono hzq))
          go_wp2_with (first | (at_builtin; refine wpList_append_own _ rfl _ _ 89 rfl wq.heap.size 138 j0 _ 2 32 Tryz.underlying89 hj hj0 hj1 hj2 rfl (by decide) _ _ _ rfl HO3.out A (l.length - (k + 1)) _ P3 rfl L3.out ?c1 O3.out ?c3 ?c4 hz3' ?_) | fail)
          case c1 => exact D3.out _ (HE.out.stay HB3w.out (by simp))
          case c3 => unfold maxLen; omega
          case c4 => omega
          intro v4 w4 hown4 hg4 _
          have HB4 := hid (HB3.out.grown hg4 hz3' (fun j hj => (HO3.out.lt j hj).1))
          obtain ⟨a4, k4, rfl⟩ := ownB_form hown4
          have HO4 := hid hown4
          clear hown4 hg4
          go_wp2
          go_ret
          have hfin := HO4.out
          rw [HPL.out, HP.out] at hfin
          refine ⟨a4, k4, ?_, ownB_le hfin (by omega), HB0.out.trans ((HBq.out.trans (HB4.out.mono hzq)).mono (by omega))⟩
          show Ending.returned (.slice a4 _ k4) = _
          rw [← HPL.out]
        · have HC := hid (fun W (hW : PrsAt W g o l) => (hW.2 k hlt).c0)
          have hz : w.heap.size + 1 ≤ wr.heap.size := by have := HB.out.size; simpa using this
          have hb : Op.bytesLess l[k].fst.toList v.fst.toList = false := by simpa using hb
          have HM := hid (show kV l v.fst = k from kV_is hk HA.out (fun _ => hb))
          have HN := hid (show nV l v.fst = k by unfold nV; rw [HM.out, List.getElem?_eq_getElem hlt]; show (if l[k].fst = v.fst then _ else _) = _; rw [if_neg hq])
          obtain ⟨P1, hP1⟩ : ∃ P1 : List Value, P1 = (l.take k).flatMap Pr.cells := ⟨_, rfl⟩
          obtain ⟨P3, hP3⟩ : ∃ P3 : List Value, P3 = (l.drop (k)).flatMap Pr.cells := ⟨_, rfl⟩
          have L1 := hid (show P1.length = k * 2 by rw [hP1, pflat_len, List.length_take, Nat.min_eq_left hk])
          have L3 := hid (show P3.length = (l.length - (k)) * 2 by rw [hP3, pflat_len, List.length_drop])
          have O1 := hid (show ∀ u ∈ P1, u.oneCell' = true by rw [hP1]; exact prs_one _)
          have O3 := hid (show ∀ u ∈ P3, u.oneCell' = true by rw [hP3]; exact prs_one _)
          have D1 := hid (fun W (hW : PrsAt W g o l) => (show ∀ j u, P1[j]? = some u → W.cell? ((⟨g, o, none⟩ : Addr).add j) = some u by rw [hP1]; exact prs_cells_to hW k))
          have hck : ¬ c = k := by omega
          have hD3 : ∀ W, PrsAt W g o l → ∀ j u, P3[j]? = some u → W.cell? ((⟨g, o + k * 2, none⟩ : Addr).add j) = some u := fun W hW => by rw [hP3]; exact prs_cells_from hW k
          have D3 := hid hD3
          have HP := hid (show P1 ++ Value.string v.fst :: Value.string v.snd :: P3 = (setV l v).flatMap Pr.cells by rw [hP1, hP3]; unfold setV; rw [HM.out, HN.out]; simp [Pr.cells])
          have HPL := hid (show k + 1 + (l.length - (k)) = (setV l v).length by unfold setV; rw [HM.out, HN.out]; simp; omega)
          clear hP1 hP3 hD3 HM HN
          have hq3 : (l[k].fst.toList == v.fst.toList) = false := by simpa using fun h => hq (toList_inj h)
          have hq4 : ¬ l[k].fst.toList = v.fst.toList := fun h => hq (toList_inj h)
          generalize l[k].fst = q1 at *
          clear c1 e1
          go_wp2
          have c0' := cell_regrown c0
          have e0' := cell_regrown e0
          clear c0 e0
          refine wp_region_quiet_below mixed (by kernel_rfl) ?_
          repeat (go_big_quiet_step (fail))
          refine wpQuiet_nil ?_
          intro wq hw'
          have HRwq := hid (show Below wr.heap.size wr wq by obtain ⟨⟨dq, osq⟩, hw''⟩ := hw'; subst hw''; exact below_regrown wr dq osq)
          clear hw' c0' e0'
          have HBq := hid (HB.out.trans (HRwq.out.mono hz))
          have hzq : w.heap.size + 1 ≤ wq.heap.size := by have := HRwq.out.size; omega
          have hown0 := own_made2 wq 138
          go_wp2_with (first | (at_builtin; refine wpList_append_own _ rfl _ _ 89 rfl wq.heap.size 138 j0 _ 2 32 Tryz.underlying89 hj hj0 hj1 hj2 rfl (by decide) _ _ _ rfl hown0 ⟨g, o, none⟩ k _ P1 rfl L1.out ?c1 O1.out ?c3 ?c4 (by simp) ?_) | fail)
          case c1 => exact D1.out _ (HE.out.stay (HBq.out.alloc hzq _) (by simp))
          case c3 => unfold maxLen; omega
          case c4 => omega
          intro v1 w1 hown1 hg1 _
          have HB1 := hid (((Below.refl wq.heap.size wq).alloc (Nat.le_refl _) (.cells #[] 138)).grown hg1 (by simp) (fun j hj => (hown0.lt j hj).1))
          obtain ⟨a1, k1, rfl⟩ := ownB_form hown1
          have HO1 := hid hown1
          have hz1' := HB1.out.size
          clear hown0 hown1 hg1
          have HB1w := hid (HBq.out.trans (HB1.out.mono hzq))
          have f0 : w1.cell? ⟨w.heap.size, 0, none⟩ = some (.string v.fst) := (HB1w.out.cell (p := ⟨w.heap.size, 0, none⟩) (by show w.heap.size < w.heap.size + 1; omega)).trans HD.out.1
          have f1 : w1.cell? ⟨w.heap.size, 1, none⟩ = some (.string v.snd) := (HB1w.out.cell (p := ⟨w.heap.size, 1, none⟩) (by show w.heap.size < w.heap.size + 1; omega)).trans HD.out.2
          go_wp2_with (first | (at_builtin; refine wpList_append_own _ rfl _ _ 89 rfl wq.heap.size 138 j0 _ 2 32 Tryz.underlying89 hj hj0 hj1 hj2 rfl (by decide) _ _ _ rfl (HO1.out.alloc _) ⟨w1.heap.size, 0, none⟩ 1 1 [.string v.fst, .string v.snd] rfl rfl ?c1 (two_one v) ?c3 ?c4 (by simp; omega) ?_) | fail)
          case c1 => exact cell_two_new _ _ _ _
          case c3 => unfold maxLen; omega
          case c4 => omega
          intro v2 w2 hown2 hg2 _
          have HB2 := hid ((HB1.out.alloc hz1' (.cells #[.string v.fst, .string v.snd] 138)).grown hg2 (by simp; omega) (fun j hj => (HO1.out.lt j hj).1))
          obtain ⟨a2, k2, rfl⟩ := ownB_form hown2
          have HO2 := hid hown2
          have hz2' := HB2.out.size
          clear hown2 hg2 HO1 HB1 f0 f1 HB1w
          have HB2w := hid (HBq.out.trans (HB2.out.mono hzq))
          have e2 : w2.cell? ⟨w.heap.size, 0, none⟩ = some (.string v.fst) := (HB2w.out.cell (p := ⟨w.heap.size, 0, none⟩) (by show w.heap.size < w.heap.size + 1; omega)).trans HD.out.1
          have c2 : w2.cell? ⟨g, o + k * 2, none⟩ = some (.string q1) := HC.out w2 (HE.out.stay HB2w.out (by simp))
          go_wp2
          have c2' := cell_regrown c2
          have e2' := cell_regrown e2
          clear c2 e2
          refine wp_region_quiet_below mixed (by kernel_rfl) ?_
          repeat (go_big_quiet_step (fail))
          refine wpQuiet_nil ?_
          intro w3 hw'
          have HRw3 := hid (show Below w2.heap.size w2 w3 by obtain ⟨⟨dq, osq⟩, hw''⟩ := hw'; subst hw''; exact below_regrown w2 dq osq)
          clear hw' c2' e2'
          have HB3 := hid (HB2.out.trans (HRw3.out.mono hz2'))
          have hz3' := HB3.out.size
          have HO3 := hid (ownB_stay HO2.out HRw3.out)
          clear HO2 HB2 HB2w
          have HB3w := hid (HBq.out.trans (HB3.out.mono hzq))
          go_wp2_with (first | (at_builtin; refine wpList_append_own _ rfl _ _ 89 rfl wq.heap.size 138 j0 _ 2 32 Tryz.underlying89 hj hj0 hj1 hj2 rfl (by decide) _ _ _ rfl HO3.out ⟨g, o + k * 2, none⟩ (l.length - (k)) _ P3 rfl L3.out ?c1 O3.out ?c3 ?c4 hz3' ?_) | fail)
          case c1 => exact D3.out _ (HE.out.stay HB3w.out (by simp))
          case c3 => unfold maxLen; omega
          case c4 => omega
          intro v4 w4 hown4 hg4 _
          have HB4 := hid (HB3.out.grown hg4 hz3' (fun j hj => (HO3.out.lt j hj).1))
          obtain ⟨a4, k4, rfl⟩ := ownB_form hown4
          have HO4 := hid hown4
          clear hown4 hg4
          go_wp2
          go_ret
          have hfin := HO4.out
          rw [HPL.out, HP.out] at hfin
          refine ⟨a4, k4, ?_, ownB_le hfin (by omega), HB0.out.trans ((HBq.out.trans (HB4.out.mono hzq)).mono (by omega))⟩
          show Ending.returned (.slice a4 _ k4) = _
          rw [← HPL.out]
    · have hz : w.heap.size + 1 ≤ wr.heap.size := by have := HB.out.size; simpa using this
      have HM := hid (show kV l v.fst = k from kV_is hk HA.out (fun h => absurd h hlt))
      have HN := hid (show nV l v.fst = k by unfold nV; rw [HM.out, List.getElem?_eq_none (by omega)])
      obtain ⟨P1, hP1⟩ : ∃ P1 : List Value, P1 = (l.take k).flatMap Pr.cells := ⟨_, rfl⟩
      obtain ⟨P3, hP3⟩ : ∃ P3 : List Value, P3 = (l.drop (k)).flatMap Pr.cells := ⟨_, rfl⟩
      have L1 := hid (show P1.length = k * 2 by rw [hP1, pflat_len, List.length_take, Nat.min_eq_left hk])
      have L3 := hid (show P3.length = (l.length - (k)) * 2 by rw [hP3, pflat_len, List.length_drop])
      have O1 := hid (show ∀ u ∈ P1, u.oneCell' = true by rw [hP1]; exact prs_one _)
      have O3 := hid (show ∀ u ∈ P3, u.oneCell' = true by rw [hP3]; exact prs_one _)
      have D1 := hid (fun W (hW : PrsAt W g o l) => (show ∀ j u, P1[j]? = some u → W.cell? ((⟨g, o, none⟩ : Addr).add j) = some u by rw [hP1]; exact prs_cells_to hW k))
      obtain ⟨A, hA, hD3⟩ : ∃ A : Addr, (if c = k then some (⟨g, o, none⟩ : Addr) else some ⟨g, o + (k) * 2, none⟩) = some A ∧ ∀ W, PrsAt W g o l → ∀ j u, P3[j]? = some u → W.cell? (A.add j) = some u := by
        by_cases hck : c = k
        · exact ⟨_, if_pos hck, fun W _ j u h => by rw [hP3, List.drop_eq_nil_of_le (by omega)] at h; simp at h⟩
        · exact ⟨_, if_neg hck, fun W hW => by rw [hP3]; exact prs_cells_from hW (k)⟩
      have D3 := hid hD3
      have HP := hid (show P1 ++ Value.string v.fst :: Value.string v.snd :: P3 = (setV l v).flatMap Pr.cells by rw [hP1, hP3]; unfold setV; rw [HM.out, HN.out]; simp [Pr.cells])
      have HPL := hid (show k + 1 + (l.length - (k)) = (setV l v).length by unfold setV; rw [HM.out, HN.out]; simp; omega)
      clear hP1 hP3 hD3 HM HN
      clear e0 e1
      go_wp2
      refine wp_region_quiet_below mixed (by kernel_rfl) ?_
      repeat (go_big_quiet_step (fail))
      refine wpQuiet_nil ?_
      intro wq hw'
      have HRwq := hid (show Below wr.heap.size wr wq by obtain ⟨⟨dq, osq⟩, hw''⟩ := hw'; subst hw''; exact below_regrown wr dq osq)
      clear hw'
      have HBq := hid (HB.out.trans (HRwq.out.mono hz))
      have hzq : w.heap.size + 1 ≤ wq.heap.size := by have := HRwq.out.size; omega
      have hown0 := own_made2 wq 138
      go_wp2_with (first | (at_builtin; refine wpList_append_own _ rfl _ _ 89 rfl wq.heap.size 138 j0 _ 2 32 Tryz.underlying89 hj hj0 hj1 hj2 rfl (by decide) _ _ _ rfl hown0 ⟨g, o, none⟩ k _ P1 rfl L1.out ?c1 O1.out ?c3 ?c4 (by simp) ?_) | fail)
      case c1 => exact D1.out _ (HE.out.stay (HBq.out.alloc hzq _) (by simp))
      case c3 => unfold maxLen; omega
      case c4 => omega
      intro v1 w1 hown1 hg1 _
      have HB1 := hid (((Below.refl wq.heap.size wq).alloc (Nat.le_refl _) (.cells #[] 138)).grown hg1 (by simp) (fun j hj => (hown0.lt j hj).1))
      obtain ⟨a1, k1, rfl⟩ := ownB_form hown1
      have HO1 := hid hown1
      have hz1' := HB1.out.size
      clear hown0 hown1 hg1
      have HB1w := hid (HBq.out.trans (HB1.out.mono hzq))
      have f0 : w1.cell? ⟨w.heap.size, 0, none⟩ = some (.string v.fst) := (HB1w.out.cell (p := ⟨w.heap.size, 0, none⟩) (by show w.heap.size < w.heap.size + 1; omega)).trans HD.out.1
      have f1 : w1.cell? ⟨w.heap.size, 1, none⟩ = some (.string v.snd) := (HB1w.out.cell (p := ⟨w.heap.size, 1, none⟩) (by show w.heap.size < w.heap.size + 1; omega)).trans HD.out.2
      go_wp2_with (first | (at_builtin; refine wpList_append_own _ rfl _ _ 89 rfl wq.heap.size 138 j0 _ 2 32 Tryz.underlying89 hj hj0 hj1 hj2 rfl (by decide) _ _ _ rfl (HO1.out.alloc _) ⟨w1.heap.size, 0, none⟩ 1 1 [.string v.fst, .string v.snd] rfl rfl ?c1 (two_one v) ?c3 ?c4 (by simp; omega) ?_) | fail)
      case c1 => exact cell_two_new _ _ _ _
      case c3 => unfold maxLen; omega
      case c4 => omega
      intro v2 w2 hown2 hg2 _
      have HB2 := hid ((HB1.out.alloc hz1' (.cells #[.string v.fst, .string v.snd] 138)).grown hg2 (by simp; omega) (fun j hj => (HO1.out.lt j hj).1))
      obtain ⟨a2, k2, rfl⟩ := ownB_form hown2
      have HO2 := hid hown2
      have hz2' := HB2.out.size
      clear hown2 hg2 HO1 HB1 f0 f1 HB1w
      have HB2w := hid (HBq.out.trans (HB2.out.mono hzq))
      go_wp2
      refine wp_region_quiet_below mixed (by kernel_rfl) ?_
      repeat (go_big_quiet_step (fail))
      refine wpQuiet_nil ?_
      intro w3 hw'
      have HRw3 := hid (show Below w2.heap.size w2 w3 by obtain ⟨⟨dq, osq⟩, hw''⟩ := hw'; subst hw''; exact below_regrown w2 dq osq)
      clear hw'
      have HB3 := hid (HB2.out.trans (HRw3.out.mono hz2'))
      have hz3' := HB3.out.size
      have HO3 := hid (ownB_stay HO2.out HRw3.out)
      clear HO2 HB2 HB2w
      have HB3w := hid (HBq.out.trans (HB3.out.mono hzq))
      go_wp2_with (first | (at_builtin; refine wpList_append_own _ rfl _ _ 89 rfl wq.heap.size 138 j0 _ 2 32 Tryz.underlying89 hj hj0 hj1 hj2 rfl (by decide) _ _ _ rfl HO3.out A (l.length - (k)) _ P3 rfl L3.out ?c1 O3.out ?c3 ?c4 hz3' ?_) | fail)
      case c1 => exact D3.out _ (HE.out.stay HB3w.out (by simp))
      case c3 => unfold maxLen; omega
      case c4 => omega
      intro v4 w4 hown4 hg4 _
      have HB4 := hid (HB3.out.grown hg4 hz3' (fun j hj => (HO3.out.lt j hj).1))
      obtain ⟨a4, k4, rfl⟩ := ownB_form hown4
      have HO4 := hid hown4
      clear hown4 hg4
      go_wp2
      go_ret
      have hfin := HO4.out
      rw [HPL.out, HP.out] at hfin
      refine ⟨a4, k4, ?_, ownB_le hfin (by omega), HB0.out.trans ((HBq.out.trans (HB4.out.mono hzq)).mono (by omega))⟩
      show Ending.returned (.slice a4 _ k4) = _
      rw [← HPL.out]
end Go.Proofs.YthggcdadipjiiaaGreatDoor
