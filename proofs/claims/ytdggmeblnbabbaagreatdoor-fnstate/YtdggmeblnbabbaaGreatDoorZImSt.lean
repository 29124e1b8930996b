/-
  What impl.untouched, marksRight, begunRight and StateRight answer, for every Def and State: contracts over the seat's program.
-/
import Derived.Test.YtdggmeblnbabbaaGreatDoorZImSA4
import Derived.Test.YtdggmeblnbabbaaGreatDoorZPrIdx3
namespace Go.Proofs.YtdggmeblnbabbaaGreatDoor
open Go.RowKit Go.Sort

set_option maxRecDepth 100000 in
set_option maxHeartbeats 2000000 in
theorem untouched_any (a3 a4 a5 : Option Addr) (k3 k4 k5 : Nat) (st bg la fa : Int) (wt bs : List ByteArray) (vs : List Pr) (w : World) :
    Calls Tryz.prog 24 #[.agg #[.int .i64 st, .int .i64 bg, .int .i64 la, .slice a3 wt.length k3, .slice a4 bs.length k4, .slice a5 vs.length k5, .int .i64 fa]] w fun e w' => RetB e (NoneP (⟨st, bg, la, wt, bs, vs, fa⟩ : St)) ∧ Below w.heap.size w w' := by
  have HB := hid (show Below w.heap.size w (w.alloc (.cells #[.int .i64 st, .int .i64 bg, .int .i64 la, .slice a3 wt.length k3, .slice a4 bs.length k4, .slice a5 vs.length k5, .int .i64 fa] 29)) from (Below.refl _ _).alloc (Nat.le_refl _) _)
  cases q1 : (bg == 0) with
  | true =>
    cases q2 : (la == 0) with
    | true =>
      cases q3 : ((wt.length : Int) == 0) with
      | true =>
        cases q4 : ((bs.length : Int) == 0) with
        | true =>
          cases q5 : ((vs.length : Int) == 0) with
          | true =>
            cases q6 : (fa == 0) with
            | true =>
              have HG := hid (show NoneP (⟨st, bg, la, wt, bs, vs, fa⟩ : St) from ⟨by show wt.length = 0; simp only [beq_iff_eq] at *; omega, by show bs.length = 0; simp only [beq_iff_eq] at *; omega, by simpa using q1, by simpa using q2, by show vs.length = 0; simp only [beq_iff_eq] at *; omega, by simpa using q6⟩)
              go_enter Tryz.func24, Tryz.ntmps24
              go_wp2
              go_ret
              exact ⟨retB_t HG.out, HB.out⟩
            | false =>
              have HG := hid (show ¬ NoneP (⟨st, bg, la, wt, bs, vs, fa⟩ : St) from fun D => by have d1 : wt.length = 0 := D.w; have d2 : bs.length = 0 := D.b; have d3 : bg = 0 := D.b0; have d4 : la = 0 := D.l0; have d5 : vs.length = 0 := D.v0; have d6 : fa = 0 := D.f0; simp only [beq_iff_eq, beq_eq_false_iff_ne, ne_eq] at *; omega)
              go_enter Tryz.func24, Tryz.ntmps24
              go_wp2
              go_ret
              exact ⟨retB_f HG.out, HB.out⟩
          | false =>
            have HG := hid (show ¬ NoneP (⟨st, bg, la, wt, bs, vs, fa⟩ : St) from fun D => by have d1 : wt.length = 0 := D.w; have d2 : bs.length = 0 := D.b; have d3 : bg = 0 := D.b0; have d4 : la = 0 := D.l0; have d5 : vs.length = 0 := D.v0; have d6 : fa = 0 := D.f0; simp only [beq_iff_eq, beq_eq_false_iff_ne, ne_eq] at *; omega)
            go_enter Tryz.func24, Tryz.ntmps24
            go_wp2
            go_ret
            exact ⟨retB_f HG.out, HB.out⟩
        | false =>
          have HG := hid (show ¬ NoneP (⟨st, bg, la, wt, bs, vs, fa⟩ : St) from fun D => by have d1 : wt.length = 0 := D.w; have d2 : bs.length = 0 := D.b; have d3 : bg = 0 := D.b0; have d4 : la = 0 := D.l0; have d5 : vs.length = 0 := D.v0; have d6 : fa = 0 := D.f0; simp only [beq_iff_eq, beq_eq_false_iff_ne, ne_eq] at *; omega)
          go_enter Tryz.func24, Tryz.ntmps24
          go_wp2
          go_ret
          exact ⟨retB_f HG.out, HB.out⟩
      | false =>
        have HG := hid (show ¬ NoneP (⟨st, bg, la, wt, bs, vs, fa⟩ : St) from fun D => by have d1 : wt.length = 0 := D.w; have d2 : bs.length = 0 := D.b; have d3 : bg = 0 := D.b0; have d4 : la = 0 := D.l0; have d5 : vs.length = 0 := D.v0; have d6 : fa = 0 := D.f0; simp only [beq_iff_eq, beq_eq_false_iff_ne, ne_eq] at *; omega)
        go_enter Tryz.func24, Tryz.ntmps24
        go_wp2
        go_ret
        exact ⟨retB_f HG.out, HB.out⟩
    | false =>
      have HG := hid (show ¬ NoneP (⟨st, bg, la, wt, bs, vs, fa⟩ : St) from fun D => by have d1 : wt.length = 0 := D.w; have d2 : bs.length = 0 := D.b; have d3 : bg = 0 := D.b0; have d4 : la = 0 := D.l0; have d5 : vs.length = 0 := D.v0; have d6 : fa = 0 := D.f0; simp only [beq_iff_eq, beq_eq_false_iff_ne, ne_eq] at *; omega)
      go_enter Tryz.func24, Tryz.ntmps24
      go_wp2
      go_ret
      exact ⟨retB_f HG.out, HB.out⟩
  | false =>
    have HG := hid (show ¬ NoneP (⟨st, bg, la, wt, bs, vs, fa⟩ : St) from fun D => by have d1 : wt.length = 0 := D.w; have d2 : bs.length = 0 := D.b; have d3 : bg = 0 := D.b0; have d4 : la = 0 := D.l0; have d5 : vs.length = 0 := D.v0; have d6 : fa = 0 := D.f0; simp only [beq_eq_false_iff_ne, ne_eq] at *; omega)
    go_enter Tryz.func24, Tryz.ntmps24
    go_wp2
    go_ret
    exact ⟨retB_f HG.out, HB.out⟩
/-- What impl.marksRight asks of a run that goes on. -/
structure MkP (ss wt bs : List ByteArray) : Prop where
  w : MarksP ss wt
  b : MarksP ss bs
  m : wt.length + bs.length ≤ 40
theorem mk_list {ss wt bs : List ByteArray} (h : MkP ss wt bs) : ListP ss wt ∧ ListP ss bs := ⟨⟨by have := h.m; omega, h.w⟩, by have := h.m; omega, h.b⟩
set_option maxRecDepth 100000 in
set_option maxHeartbeats 2000000 in
theorem marksRight_2 (a1 a2 a3 a4 a5 : Option Addr) (k1 k2 k3 k4 k5 : Nat) (ss : List ByteArray) (fs : List Pr) (bg la fa : Int) (wt bs : List ByteArray) (vs : List Pr) (w : World) :
    Calls Tryz.prog 45 #[.agg #[.slice a1 ss.length k1, .slice a2 fs.length k2], .agg #[.int .i64 2, .int .i64 bg, .int .i64 la, .slice a3 wt.length k3, .slice a4 bs.length k4, .slice a5 vs.length k5, .int .i64 fa]] w fun e w' => RetB e (GoneP (⟨2, bg, la, wt, bs, vs, fa⟩ : St)) ∧ Below w.heap.size w w' := by
  have HB := hid (show Below w.heap.size w ((w.alloc (.cells #[.slice a1 ss.length k1, .slice a2 fs.length k2] 26)).alloc (.cells #[.int .i64 2, .int .i64 bg, .int .i64 la, .slice a3 wt.length k3, .slice a4 bs.length k4, .slice a5 vs.length k5, .int .i64 fa] 29)) from below2 _ _ _)
  cases q1 : ((wt.length : Int) == 0) with
  | true =>
    cases q2 : ((bs.length : Int) == 0) with
    | true =>
      have HG := hid (show GoneP (⟨2, bg, la, wt, bs, vs, fa⟩ : St) from ⟨by show wt.length = 0; simp only [beq_iff_eq] at *; omega, by show bs.length = 0; simp only [beq_iff_eq] at *; omega⟩)
      go_enter Tryz.func45, Tryz.ntmps45
      go_wp2
      go_ret
      exact ⟨retB_t HG.out, HB.out⟩
    | false =>
      have HG := hid (show ¬ GoneP (⟨2, bg, la, wt, bs, vs, fa⟩ : St) from fun D => by have d2 : bs.length = 0 := D.b; simp only [beq_iff_eq, beq_eq_false_iff_ne, ne_eq] at *; omega)
      go_enter Tryz.func45, Tryz.ntmps45
      go_wp2
      go_ret
      exact ⟨retB_f HG.out, HB.out⟩
  | false =>
    have HG := hid (show ¬ GoneP (⟨2, bg, la, wt, bs, vs, fa⟩ : St) from fun D => by have d1 : wt.length = 0 := D.w; simp only [beq_eq_false_iff_ne, ne_eq] at *; omega)
    go_enter Tryz.func45, Tryz.ntmps45
    go_wp2
    go_ret
    exact ⟨retB_f HG.out, HB.out⟩
set_option maxRecDepth 100000 in
set_option maxHeartbeats 2000000 in
theorem marksRight_1 (a1 a2 a3 a4 a5 : Option Addr) (k1 k2 k3 k4 k5 : Nat) (ss : List ByteArray) (fs : List Pr) (bg la fa : Int) (wt bs : List ByteArray) (vs : List Pr) (w : World) (h1 : StrSl w (.slice a1 ss.length k1) ss) (h3 : StrSl w (.slice a3 wt.length k3) wt) (h4 : StrSl w (.slice a4 bs.length k4) bs) (n1 : ss.length ≤ maxLen) (n3 : wt.length ≤ maxLen) (n4 : bs.length ≤ maxLen) :
    Calls Tryz.prog 45 #[.agg #[.slice a1 ss.length k1, .slice a2 fs.length k2], .agg #[.int .i64 1, .int .i64 bg, .int .i64 la, .slice a3 wt.length k3, .slice a4 bs.length k4, .slice a5 vs.length k5, .int .i64 fa]] w fun e w' => RetB e (MkP ss wt bs) ∧ Below w.heap.size w w' := by
  have hb0 : Below w.heap.size w ((w.alloc (.cells #[.slice a1 ss.length k1, .slice a2 fs.length k2] 26)).alloc (.cells #[.int .i64 1, .int .i64 bg, .int .i64 la, .slice a3 wt.length k3, .slice a4 bs.length k4, .slice a5 vs.length k5, .int .i64 fa] 29)) := below2 _ _ _
  have HB := hid hb0
  have H1 := hid h1
  have H4 := hid h4
  have N1 := hid n1
  have N4 := hid n4
  have c1 := listRight_any a1 a3 k1 k3 ss wt _ (h1.stay hb0 (Nat.le_refl _)) (h3.stay hb0 (Nat.le_refl _)) n1 n3
  unfold maxLen at n3 n4
  clear hb0 h1 h3 h4 n1
  go_enter Tryz.func45, Tryz.ntmps45
  go_wp2_with fail
  refine c1.mono ?_
  rintro e w1 ⟨⟨B1, rfl, T1⟩, hb1⟩
  have x0 := (hb1.cell (p := ⟨w.heap.size, 0, none⟩) (by simp; omega)).trans (by simp [go_sem] : _ = some (.slice a1 ss.length k1))
  have y3 := (hb1.cell (p := ⟨w.heap.size + 1, 3, none⟩) (by simp)).trans (by simp [go_sem] : _ = some (.slice a3 wt.length k3))
  have y4 := (hb1.cell (p := ⟨w.heap.size + 1, 4, none⟩) (by simp)).trans (by simp [go_sem] : _ = some (.slice a4 bs.length k4))
  have hz1 : w.heap.size + 1 < w1.heap.size := by have := hb1.size; simp at this; omega
  have HB1 := hid (HB.out.trans (hb1.mono (by simp; omega)))
  clear hb1 c1
  cases B1 with
  | false =>
    have HN := hid (show ¬ MkP ss wt bs from fun D => absurd (T1.yes (mk_list D).1) (by decide))
    clear T1
    go_wp2
    go_ret
    exact ⟨retB_f HN.out, HB1.out⟩
  | true =>
    have G1 := hid (T1.1 rfl)
    clear T1
    go_wp2_with fail
    refine (listRight_any a1 a4 k1 k4 ss bs _ (H1.out.stay HB1.out (Nat.le_refl _)) (H4.out.stay HB1.out (Nat.le_refl _)) N1.out N4.out).mono ?_
    rintro e w2 ⟨⟨B2, rfl, T2⟩, hb2⟩
    have z3 := (hb2.cell (p := ⟨w.heap.size + 1, 3, none⟩) hz1).trans y3
    have z4 := (hb2.cell (p := ⟨w.heap.size + 1, 4, none⟩) hz1).trans y4
    have HB2 := hid (HB1.out.trans (hb2.mono HB1.out.size))
    clear hb2 x0 y3 y4 hz1
    cases B2 with
    | false =>
      have HN := hid (show ¬ MkP ss wt bs from fun D => absurd (T2.yes (mk_list D).2) (by decide))
      clear T2
      go_wp2
      go_ret
      exact ⟨retB_f HN.out, HB2.out⟩
    | true =>
      have G2 := hid (T2.1 rfl)
      have m1 := G1.out.1
      have m2 := G2.out.1
      clear T2
      by_cases hm : wt.length + bs.length ≤ 40
      · have hm2 : decide ((wt.length : Int) + (bs.length : Int) ≤ 40) = true := decide_eq_true (by omega)
        have HY := hid (show MkP ss wt bs from ⟨G1.out.2, G2.out.2, hm⟩)
        clear hm
        go_wp2
        go_ret
        exact ⟨retB_t HY.out, HB2.out⟩
      · have hm2 : decide ((wt.length : Int) + (bs.length : Int) ≤ 40) = false := decide_eq_false (by omega)
        have HN := hid (show ¬ MkP ss wt bs from fun D => hm D.m)
        clear hm
        go_wp2
        go_ret
        exact ⟨retB_f HN.out, HB2.out⟩
/-- What impl.begunRight asks, M of the marks. -/
structure BegM (M : Prop) (bg la fa : Int) (vs : List Pr) : Prop where
  t1 : timB bg = true
  t2 : timB la = true
  le : bg ≤ la
  mks : M
  v : VarsP vs
  f : timB fa = true
set_option maxRecDepth 100000 in
set_option maxHeartbeats 2000000 in
theorem begunRight_gen (a1 a2 a3 a4 a5 : Option Addr) (k1 k2 k3 k4 k5 : Nat) (ss : List ByteArray) (fs : List Pr) (st bg la fa : Int) (wt bs : List ByteArray) (vs : List Pr) (w : World) (M : Prop) (cM : ∀ W, Below w.heap.size w W → Calls Tryz.prog 45 #[.agg #[.slice a1 ss.length k1, .slice a2 fs.length k2], .agg #[.int .i64 st, .int .i64 bg, .int .i64 la, .slice a3 wt.length k3, .slice a4 bs.length k4, .slice a5 vs.length k5, .int .i64 fa]] W fun e w' => RetB e M ∧ Below W.heap.size W w') (h5 : PrSl w (.slice a5 vs.length k5) vs) (F5 : FitP vs) (n5 : vs.length ≤ maxLen) :
    Calls Tryz.prog 25 #[.agg #[.slice a1 ss.length k1, .slice a2 fs.length k2], .agg #[.int .i64 st, .int .i64 bg, .int .i64 la, .slice a3 wt.length k3, .slice a4 bs.length k4, .slice a5 vs.length k5, .int .i64 fa]] w fun e w' => RetB e (BegM M bg la fa vs) ∧ Below w.heap.size w w' := by
  have HB := hid (show Below w.heap.size w ((w.alloc (.cells #[.slice a1 ss.length k1, .slice a2 fs.length k2] 26)).alloc (.cells #[.int .i64 st, .int .i64 bg, .int .i64 la, .slice a3 wt.length k3, .slice a4 bs.length k4, .slice a5 vs.length k5, .int .i64 fa] 29)) from below2 _ _ _)
  have HM := hid cM
  have H5 := hid h5
  have HF5 := hid F5
  have N5 := hid n5
  clear cM h5 F5 n5
  go_enter Tryz.func25, Tryz.ntmps25
  go_wp2_with fail
  refine (isTime_any bg _).mono ?_
  rintro e w1 ⟨rfl, rfl⟩
  cases g1 : timB bg with
  | false =>
    have HN := hid (show ¬ BegM M bg la fa vs from fun D => by have := D.t1; rw [g1] at this; cases this)
    clear g1
    go_wp2
    go_ret
    exact ⟨retB_f HN.out, HB.out⟩
  | true =>
    have G1 := hid g1
    clear g1
    go_wp2_with fail
    refine (isTime_any la _).mono ?_
    rintro e w1 ⟨rfl, rfl⟩
    cases g2 : timB la with
    | false =>
      have HN := hid (show ¬ BegM M bg la fa vs from fun D => by have := D.t2; rw [g2] at this; cases this)
      clear g2
      go_wp2
      go_ret
      exact ⟨retB_f HN.out, HB.out⟩
    | true =>
      have G2 := hid g2
      clear g2
      by_cases g3 : bg ≤ la
      · have G3 := hid g3
        go_wp2_with fail
        refine (HM.out _ HB.out).mono ?_
        rintro e w1 ⟨⟨B1, rfl, T1⟩, hb1⟩
        have y5 := (hb1.cell (p := ⟨w.heap.size + 1, 5, none⟩) (by simp)).trans (by simp [go_sem] : _ = some (.slice a5 vs.length k5))
        have y6 := (hb1.cell (p := ⟨w.heap.size + 1, 6, none⟩) (by simp)).trans (by simp [go_sem] : _ = some (.int .i64 fa))
        have hz1 : w.heap.size + 1 < w1.heap.size := by have := hb1.size; simp at this; omega
        have HB1 := hid (HB.out.trans (hb1.mono (by simp; omega)))
        clear hb1
        cases B1 with
        | false =>
          have HN := hid (show ¬ BegM M bg la fa vs from fun D => absurd (T1.yes D.mks) (by decide))
          clear T1
          go_wp2
          go_ret
          exact ⟨retB_f HN.out, HB1.out⟩
        | true =>
          have G4 := hid (T1.1 rfl)
          clear T1
          go_wp2_with fail
          refine (varsRight_any a5 k5 vs _ (H5.out.stay HB1.out (Nat.le_refl _)) HF5.out N5.out).mono ?_
          rintro e w2 ⟨⟨B2, rfl, T2⟩, hb2⟩
          have z6 := (hb2.cell (p := ⟨w.heap.size + 1, 6, none⟩) hz1).trans y6
          have HB2 := hid (HB1.out.trans (hb2.mono HB1.out.size))
          clear hb2 y5 y6 hz1
          cases B2 with
          | false =>
            have HN := hid (show ¬ BegM M bg la fa vs from fun D => absurd (T2.yes D.v) (by decide))
            clear T2
            go_wp2
            go_ret
            exact ⟨retB_f HN.out, HB2.out⟩
          | true =>
            have G5 := hid (T2.1 rfl)
            clear T2
            by_cases f1 : 0 ≤ fa
            · by_cases f2 : fa ≤ 1000000
              · have HY := hid (show BegM M bg la fa vs from ⟨G1.out, G2.out, G3.out, G4.out, G5.out, rng_yes f1 f2⟩)
                go_wp2
                go_ret
                exact ⟨retB_t HY.out, HB2.out⟩
              · have HN := hid (show ¬ BegM M bg la fa vs from fun D => by have := D.f; unfold timB at this; rw [rng_no (fun h => f2 h.2)] at this; cases this)
                have f3 : decide (fa ≤ 1000000) = false := decide_eq_false f2
                go_wp2
                go_ret
                exact ⟨retB_f HN.out, HB2.out⟩
            · have HN := hid (show ¬ BegM M bg la fa vs from fun D => by have := D.f; unfold timB at this; rw [rng_no (fun h => f1 h.1)] at this; cases this)
              go_wp2
              go_ret
              exact ⟨retB_f HN.out, HB2.out⟩
      · have HN := hid (show ¬ BegM M bg la fa vs from fun D => g3 D.le)
        go_wp2
        go_ret
        exact ⟨retB_f HN.out, HB.out⟩
theorem begM_1 {ss : List ByteArray} {bg la fa : Int} {wt bs : List ByteArray} {vs : List Pr} : BegM (MkP ss wt bs) bg la fa vs ↔ BegP ss (⟨1, bg, la, wt, bs, vs, fa⟩ : St) :=
  ⟨fun D => ⟨D.t1, D.t2, D.le, D.mks.m, D.mks.w, D.mks.b, D.v, D.f⟩, fun D => ⟨D.t1, D.t2, D.le, ⟨D.w, D.b, D.m⟩, D.v, D.f⟩⟩
theorem marksP_none {ss l : List ByteArray} (h : l.length = 0) : MarksP ss l := ⟨fun i hi => absurd hi (by omega), fun i hi => absurd hi (by omega)⟩
theorem begM_2 {ss : List ByteArray} {bg la fa : Int} {wt bs : List ByteArray} {vs : List Pr} : BegM (GoneP (⟨2, bg, la, wt, bs, vs, fa⟩ : St)) bg la fa vs ↔ GoneP (⟨2, bg, la, wt, bs, vs, fa⟩ : St) ∧ BegP ss (⟨2, bg, la, wt, bs, vs, fa⟩ : St) :=
  ⟨fun D => ⟨D.mks, D.t1, D.t2, D.le, by have := D.mks.w; have := D.mks.b; omega, marksP_none D.mks.w, marksP_none D.mks.b, D.v, D.f⟩, fun D => ⟨D.2.t1, D.2.t2, D.2.le, D.1, D.2.v, D.2.f⟩⟩
set_option maxRecDepth 100000 in
set_option maxHeartbeats 2000000 in
theorem implStateRight_any (a1 a2 a3 a4 a5 : Option Addr) (k1 k2 k3 k4 k5 : Nat) (ss : List ByteArray) (fs : List Pr) (st bg la fa : Int) (wt bs : List ByteArray) (vs : List Pr) (w : World) (h2 : PrSl w (.slice a2 fs.length k2) fs) (F1 : ∀ i, (h : i < ss.length) → ss[i].size ≤ maxLen) (n2 : fs.length ≤ maxLen) (h1 : StrSl w (.slice a1 ss.length k1) ss) (h3 : StrSl w (.slice a3 wt.length k3) wt) (h4 : StrSl w (.slice a4 bs.length k4) bs) (h5 : PrSl w (.slice a5 vs.length k5) vs) (F5 : FitP vs) (n1 : ss.length ≤ maxLen) (n3 : wt.length ≤ maxLen) (n4 : bs.length ≤ maxLen) (n5 : vs.length ≤ maxLen) :
    Calls Tryz.prog 8 #[.agg #[.slice a1 ss.length k1, .slice a2 fs.length k2], .agg #[.int .i64 st, .int .i64 bg, .int .i64 la, .slice a3 wt.length k3, .slice a4 bs.length k4, .slice a5 vs.length k5, .int .i64 fa]] w fun e w' => RetB e (DefP ss fs ∧ StP ss (⟨st, bg, la, wt, bs, vs, fa⟩ : St)) ∧ Below w.heap.size w w' := by
  have hb0 : Below w.heap.size w ((w.alloc (.cells #[.slice a1 ss.length k1, .slice a2 fs.length k2] 26)).alloc (.cells #[.int .i64 st, .int .i64 bg, .int .i64 la, .slice a3 wt.length k3, .slice a4 bs.length k4, .slice a5 vs.length k5, .int .i64 fa] 29)) := below2 _ _ _
  have HB := hid hb0
  have c1 := implDefRight_any a1 a2 k1 k2 ss fs _ (h1.stay hb0 (Nat.le_refl _)) (h2.stay hb0 (Nat.le_refl _)) F1 n1 n2
  have H1 := hid h1
  have H3 := hid h3
  have H4 := hid h4
  have H5 := hid h5
  have HF5 := hid F5
  have N1 := hid n1
  have N3 := hid n3
  have N4 := hid n4
  have N5 := hid n5
  clear hb0 h1 h2 h3 h4 h5 F1 F5 n1 n2 n3 n4 n5
  by_cases e0 : st = 0
  · subst e0
    go_enter Tryz.func8, Tryz.ntmps8
    go_wp2_with fail
    refine c1.mono ?_
    rintro e w1 ⟨⟨B1, rfl, T1⟩, hb1⟩
    have x0 := (hb1.cell (p := ⟨w.heap.size, 0, none⟩) (by simp; omega)).trans (by simp [go_sem] : _ = some (.slice a1 ss.length k1))
    have x1 := (hb1.cell (p := ⟨w.heap.size, 1, none⟩) (by simp; omega)).trans (by simp [go_sem] : _ = some (.slice a2 fs.length k2))
    have y0 := (hb1.cell (p := ⟨w.heap.size + 1, 0, none⟩) (by simp)).trans (by simp [go_sem] : _ = some (.int .i64 0))
    have y1 := (hb1.cell (p := ⟨w.heap.size + 1, 1, none⟩) (by simp)).trans (by simp [go_sem] : _ = some (.int .i64 bg))
    have y2 := (hb1.cell (p := ⟨w.heap.size + 1, 2, none⟩) (by simp)).trans (by simp [go_sem] : _ = some (.int .i64 la))
    have y3 := (hb1.cell (p := ⟨w.heap.size + 1, 3, none⟩) (by simp)).trans (by simp [go_sem] : _ = some (.slice a3 wt.length k3))
    have y4 := (hb1.cell (p := ⟨w.heap.size + 1, 4, none⟩) (by simp)).trans (by simp [go_sem] : _ = some (.slice a4 bs.length k4))
    have y5 := (hb1.cell (p := ⟨w.heap.size + 1, 5, none⟩) (by simp)).trans (by simp [go_sem] : _ = some (.slice a5 vs.length k5))
    have y6 := (hb1.cell (p := ⟨w.heap.size + 1, 6, none⟩) (by simp)).trans (by simp [go_sem] : _ = some (.int .i64 fa))
    have HB1 := hid (HB.out.trans (hb1.mono (by simp; omega)))
    clear hb1 c1
    cases B1 with
    | false =>
      have HN := hid (show ¬ DefP ss fs from fun D => absurd (T1.yes D) (by decide))
      clear T1
      go_wp2
      go_ret
      exact ⟨retB_f (fun D => HN.out D.1), HB1.out⟩
    | true =>
      have HY := hid (T1.1 rfl)
      clear T1
      go_wp2_with fail
      refine (untouched_any a3 a4 a5 k3 k4 k5 0 bg la fa wt bs vs _).mono ?_
      rintro e w2 ⟨⟨B2, rfl, T2⟩, hb2⟩
      have HB2 := hid (HB1.out.trans (hb2.mono HB1.out.size))
      have HT := hid T2
      clear hb2 T2 x0 x1 y0 y1 y2 y3 y4 y5 y6
      go_wp2
      go_ret
      exact ⟨⟨B2, rfl, ⟨fun e => ⟨HY.out, (stP_0 rfl).2 (HT.out.1 e)⟩, fun D => HT.out.2 ((stP_0 rfl).1 D.2)⟩⟩, HB2.out⟩
  · by_cases e1 : st = 1
    · subst e1
      go_enter Tryz.func8, Tryz.ntmps8
      go_wp2_with fail
      refine c1.mono ?_
      rintro e w1 ⟨⟨B1, rfl, T1⟩, hb1⟩
      have x0 := (hb1.cell (p := ⟨w.heap.size, 0, none⟩) (by simp; omega)).trans (by simp [go_sem] : _ = some (.slice a1 ss.length k1))
      have x1 := (hb1.cell (p := ⟨w.heap.size, 1, none⟩) (by simp; omega)).trans (by simp [go_sem] : _ = some (.slice a2 fs.length k2))
      have y0 := (hb1.cell (p := ⟨w.heap.size + 1, 0, none⟩) (by simp)).trans (by simp [go_sem] : _ = some (.int .i64 1))
      have y1 := (hb1.cell (p := ⟨w.heap.size + 1, 1, none⟩) (by simp)).trans (by simp [go_sem] : _ = some (.int .i64 bg))
      have y2 := (hb1.cell (p := ⟨w.heap.size + 1, 2, none⟩) (by simp)).trans (by simp [go_sem] : _ = some (.int .i64 la))
      have y3 := (hb1.cell (p := ⟨w.heap.size + 1, 3, none⟩) (by simp)).trans (by simp [go_sem] : _ = some (.slice a3 wt.length k3))
      have y4 := (hb1.cell (p := ⟨w.heap.size + 1, 4, none⟩) (by simp)).trans (by simp [go_sem] : _ = some (.slice a4 bs.length k4))
      have y5 := (hb1.cell (p := ⟨w.heap.size + 1, 5, none⟩) (by simp)).trans (by simp [go_sem] : _ = some (.slice a5 vs.length k5))
      have y6 := (hb1.cell (p := ⟨w.heap.size + 1, 6, none⟩) (by simp)).trans (by simp [go_sem] : _ = some (.int .i64 fa))
      have HB1 := hid (HB.out.trans (hb1.mono (by simp; omega)))
      clear hb1 c1
      cases B1 with
      | false =>
        have HN := hid (show ¬ DefP ss fs from fun D => absurd (T1.yes D) (by decide))
        clear T1
        go_wp2
        go_ret
        exact ⟨retB_f (fun D => HN.out D.1), HB1.out⟩
      | true =>
        have HY := hid (T1.1 rfl)
        clear T1
        go_wp2_with fail
        refine (begunRight_gen a1 a2 a3 a4 a5 k1 k2 k3 k4 k5 ss fs 1 bg la fa wt bs vs _ (MkP ss wt bs) (fun W hb => marksRight_1 a1 a2 a3 a4 a5 k1 k2 k3 k4 k5 ss fs bg la fa wt bs vs W ((H1.out.stay HB1.out (Nat.le_refl _)).stay hb (Nat.le_refl _)) ((H3.out.stay HB1.out (Nat.le_refl _)).stay hb (Nat.le_refl _)) ((H4.out.stay HB1.out (Nat.le_refl _)).stay hb (Nat.le_refl _)) N1.out N3.out N4.out) (H5.out.stay HB1.out (Nat.le_refl _)) HF5.out N5.out).mono ?_
        rintro e w2 ⟨⟨B2, rfl, T2⟩, hb2⟩
        have HB2 := hid (HB1.out.trans (hb2.mono HB1.out.size))
        have HT := hid T2
        clear hb2 T2 x0 x1 y0 y1 y2 y3 y4 y5 y6
        go_wp2
        go_ret
        exact ⟨⟨B2, rfl, ⟨fun e => ⟨HY.out, ((stP_1 rfl).trans begM_1.symm).2 (HT.out.1 e)⟩, fun D => HT.out.2 (((stP_1 rfl).trans begM_1.symm).1 D.2)⟩⟩, HB2.out⟩
    · by_cases e2 : st = 2
      · subst e2
        go_enter Tryz.func8, Tryz.ntmps8
        go_wp2_with fail
        refine c1.mono ?_
        rintro e w1 ⟨⟨B1, rfl, T1⟩, hb1⟩
        have x0 := (hb1.cell (p := ⟨w.heap.size, 0, none⟩) (by simp; omega)).trans (by simp [go_sem] : _ = some (.slice a1 ss.length k1))
        have x1 := (hb1.cell (p := ⟨w.heap.size, 1, none⟩) (by simp; omega)).trans (by simp [go_sem] : _ = some (.slice a2 fs.length k2))
        have y0 := (hb1.cell (p := ⟨w.heap.size + 1, 0, none⟩) (by simp)).trans (by simp [go_sem] : _ = some (.int .i64 2))
        have y1 := (hb1.cell (p := ⟨w.heap.size + 1, 1, none⟩) (by simp)).trans (by simp [go_sem] : _ = some (.int .i64 bg))
        have y2 := (hb1.cell (p := ⟨w.heap.size + 1, 2, none⟩) (by simp)).trans (by simp [go_sem] : _ = some (.int .i64 la))
        have y3 := (hb1.cell (p := ⟨w.heap.size + 1, 3, none⟩) (by simp)).trans (by simp [go_sem] : _ = some (.slice a3 wt.length k3))
        have y4 := (hb1.cell (p := ⟨w.heap.size + 1, 4, none⟩) (by simp)).trans (by simp [go_sem] : _ = some (.slice a4 bs.length k4))
        have y5 := (hb1.cell (p := ⟨w.heap.size + 1, 5, none⟩) (by simp)).trans (by simp [go_sem] : _ = some (.slice a5 vs.length k5))
        have y6 := (hb1.cell (p := ⟨w.heap.size + 1, 6, none⟩) (by simp)).trans (by simp [go_sem] : _ = some (.int .i64 fa))
        have HB1 := hid (HB.out.trans (hb1.mono (by simp; omega)))
        clear hb1 c1
        cases B1 with
        | false =>
          have HN := hid (show ¬ DefP ss fs from fun D => absurd (T1.yes D) (by decide))
          clear T1
          go_wp2
          go_ret
          exact ⟨retB_f (fun D => HN.out D.1), HB1.out⟩
        | true =>
          have HY := hid (T1.1 rfl)
          clear T1
          go_wp2_with fail
          refine (begunRight_gen a1 a2 a3 a4 a5 k1 k2 k3 k4 k5 ss fs 2 bg la fa wt bs vs _ _ (fun W hb => marksRight_2 a1 a2 a3 a4 a5 k1 k2 k3 k4 k5 ss fs bg la fa wt bs vs W) (H5.out.stay HB1.out (Nat.le_refl _)) HF5.out N5.out).mono ?_
          rintro e w2 ⟨⟨B2, rfl, T2⟩, hb2⟩
          have HB2 := hid (HB1.out.trans (hb2.mono HB1.out.size))
          have HT := hid T2
          clear hb2 T2 x0 x1 y0 y1 y2 y3 y4 y5 y6
          go_wp2
          go_ret
          exact ⟨⟨B2, rfl, ⟨fun e => ⟨HY.out, ((stP_2 rfl).trans begM_2.symm).2 (HT.out.1 e)⟩, fun D => HT.out.2 (((stP_2 rfl).trans begM_2.symm).1 D.2)⟩⟩, HB2.out⟩
      · have q0 : (st == 0) = false := by simpa using e0
        have q1 : (st == 1) = false := by simpa using e1
        have q2 : (st == 2) = false := by simpa using e2
        have E0 := hid e0
        have E1 := hid e1
        have E2 := hid e2
        clear e0 e1 e2
        go_enter Tryz.func8, Tryz.ntmps8
        go_wp2_with fail
        refine c1.mono ?_
        rintro e w1 ⟨⟨B1, rfl, T1⟩, hb1⟩
        have x0 := (hb1.cell (p := ⟨w.heap.size, 0, none⟩) (by simp; omega)).trans (by simp [go_sem] : _ = some (.slice a1 ss.length k1))
        have x1 := (hb1.cell (p := ⟨w.heap.size, 1, none⟩) (by simp; omega)).trans (by simp [go_sem] : _ = some (.slice a2 fs.length k2))
        have y0 := (hb1.cell (p := ⟨w.heap.size + 1, 0, none⟩) (by simp)).trans (by simp [go_sem] : _ = some (.int .i64 st))
        have y1 := (hb1.cell (p := ⟨w.heap.size + 1, 1, none⟩) (by simp)).trans (by simp [go_sem] : _ = some (.int .i64 bg))
        have y2 := (hb1.cell (p := ⟨w.heap.size + 1, 2, none⟩) (by simp)).trans (by simp [go_sem] : _ = some (.int .i64 la))
        have y3 := (hb1.cell (p := ⟨w.heap.size + 1, 3, none⟩) (by simp)).trans (by simp [go_sem] : _ = some (.slice a3 wt.length k3))
        have y4 := (hb1.cell (p := ⟨w.heap.size + 1, 4, none⟩) (by simp)).trans (by simp [go_sem] : _ = some (.slice a4 bs.length k4))
        have y5 := (hb1.cell (p := ⟨w.heap.size + 1, 5, none⟩) (by simp)).trans (by simp [go_sem] : _ = some (.slice a5 vs.length k5))
        have y6 := (hb1.cell (p := ⟨w.heap.size + 1, 6, none⟩) (by simp)).trans (by simp [go_sem] : _ = some (.int .i64 fa))
        have HB1 := hid (HB.out.trans (hb1.mono (by simp; omega)))
        clear hb1 c1
        cases B1 with
        | false =>
          have HN := hid (show ¬ DefP ss fs from fun D => absurd (T1.yes D) (by decide))
          clear T1
          go_wp2
          go_ret
          exact ⟨retB_f (fun D => HN.out D.1), HB1.out⟩
        | true =>
          have HY := hid (T1.1 rfl)
          clear T1
          go_wp2
          go_ret
          exact ⟨retB_f (fun D => stP_no E0.out E1.out E2.out D.2), HB1.out⟩
end Go.Proofs.YtdggmeblnbabbaaGreatDoor
