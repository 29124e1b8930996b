/-
  What spec.l03Right and spec.StateRight answer, for every Def and State: contracts over the seat's program.
-/
import Derived.Test.YtdggmeblnbabbaaGreatDoorZSpMk2
namespace Go.Proofs.YtdggmeblnbabbaaGreatDoor
open Go.RowKit Go.Sort

theorem lens3 (m n : Nat) : (((m : Int) == 0) = true ∧ ((n : Int) == 0) = true) ∨ (((m : Int) == 0) = true ∧ ((n : Int) == 0) = false) ∨ ((m : Int) == 0) = false := by
  by_cases h1 : m = 0
  · by_cases h2 : n = 0
    · exact .inl ⟨by simp [h1], by simp [h2]⟩
    · exact .inr (.inl ⟨by simp [h1], by simp; omega⟩)
  · exact .inr (.inr (by simp; omega))
set_option maxRecDepth 100000 in
set_option maxHeartbeats 2000000 in
theorem l03Right_1 (a1 a2 a3 a4 a5 : Option Addr) (k1 k2 k3 k4 k5 : Nat) (ss : List ByteArray) (fs : List Pr) (bg la fa : Int) (wt bs : List ByteArray) (vs : List Pr) (w : World) (h1 : StrSl w (.slice a1 ss.length k1) ss) (h3 : StrSl w (.slice a3 wt.length k3) wt) (h4 : StrSl w (.slice a4 bs.length k4) bs) (h5 : PrSl w (.slice a5 vs.length k5) vs) (F5 : FitP vs) (n1 : ss.length ≤ maxLen) (n3 : wt.length ≤ maxLen) (n4 : bs.length ≤ maxLen) (n5 : vs.length ≤ maxLen) :
    Calls Tryz.prog 26 #[.agg #[.slice a1 ss.length k1, .slice a2 fs.length k2], .agg #[.int .i64 1, .int .i64 bg, .int .i64 la, .slice a3 wt.length k3, .slice a4 bs.length k4, .slice a5 vs.length k5, .int .i64 fa]] w fun e w' => RetB e (BegP ss (⟨1, bg, la, wt, bs, vs, fa⟩ : St)) ∧ Below w.heap.size w w' := by
  have HB := hid (show Below w.heap.size w ((w.alloc (.cells #[.slice a1 ss.length k1, .slice a2 fs.length k2] 26)).alloc (.cells #[.int .i64 1, .int .i64 bg, .int .i64 la, .slice a3 wt.length k3, .slice a4 bs.length k4, .slice a5 vs.length k5, .int .i64 fa] 29)) from below2 _ _ _)
  have H1 := hid h1
  have H3 := hid h3
  have H4 := hid h4
  have H5 := hid h5
  have HF5 := hid F5
  have N1 := hid n1
  have N3 := hid n3
  have N4 := hid n4
  have N5 := hid n5
  unfold maxLen at n3 n4 n5
  clear h1 h3 h4 h5 F5 n1
  rcases lens3 wt.length bs.length with ⟨q1, q2⟩ | ⟨q1, q2⟩ | q1
  all_goals
    go_enter Tryz.func26, Tryz.ntmps26
    go_wp2_with fail
    refine (l02Time_any bg _).mono ?_
    rintro e w1 ⟨rfl, rfl⟩
    cases g1 : timB bg with
    | false =>
      have HN := hid (show ¬ BegP ss (⟨1, bg, la, wt, bs, vs, fa⟩ : St) from fun D => by have := D.t1; rw [g1] at this; cases this)
      clear g1
      go_wp2
      go_ret
      exact ⟨retB_f HN.out, HB.out⟩
    | true =>
      have G1 := hid g1
      clear g1
      go_wp2_with fail
      refine (l02Time_any la _).mono ?_
      rintro e w1 ⟨rfl, rfl⟩
      cases g2 : timB la with
      | false =>
        have HN := hid (show ¬ BegP ss (⟨1, bg, la, wt, bs, vs, fa⟩ : St) from fun D => by have := D.t2; rw [g2] at this; cases this)
        clear g2
        go_wp2
        go_ret
        exact ⟨retB_f HN.out, HB.out⟩
      | true =>
        have G2 := hid g2
        clear g2
        by_cases g3 : bg ≤ la
        · have G3 := hid g3
          by_cases g4 : wt.length ≤ 40
          · by_cases g5 : (bs.length : Int) ≤ 40 - (wt.length : Int)
            · have G4 := hid (show wt.length + bs.length ≤ 40 by omega)
              go_wp2_with fail
              refine (l03Marks_any a1 a2 k1 k2 _ ss wt fs _ (H1.out.stay HB.out (Nat.le_refl _)) (H3.out.stay HB.out (Nat.le_refl _)) N1.out N3.out).mono ?_
              rintro e w1 ⟨⟨B1, rfl, T1⟩, hb1⟩
              have x0 := (hb1.cell (p := ⟨w.heap.size, 0, none⟩) (by simp; omega)).trans (by simp [go_sem] : _ = some (.slice a1 ss.length k1))
              have x1 := (hb1.cell (p := ⟨w.heap.size, 1, none⟩) (by simp; omega)).trans (by simp [go_sem] : _ = some (.slice a2 fs.length k2))
              have y4 := (hb1.cell (p := ⟨w.heap.size + 1, 4, none⟩) (by simp)).trans (by simp [go_sem] : _ = some (.slice a4 bs.length k4))
              have y5 := (hb1.cell (p := ⟨w.heap.size + 1, 5, none⟩) (by simp)).trans (by simp [go_sem] : _ = some (.slice a5 vs.length k5))
              have y6 := (hb1.cell (p := ⟨w.heap.size + 1, 6, none⟩) (by simp)).trans (by simp [go_sem] : _ = some (.int .i64 fa))
              have hz1 : w.heap.size + 1 < w1.heap.size := by have := hb1.size; simp at this; omega
              have HB1 := hid (HB.out.trans (hb1.mono (by simp; omega)))
              clear hb1
              cases B1 with
              | false =>
                have HN := hid (show ¬ BegP ss (⟨1, bg, la, wt, bs, vs, fa⟩ : St) from fun D => absurd (T1.yes D.w) (by decide))
                clear T1
                go_wp2
                go_ret
                exact ⟨retB_f HN.out, HB1.out⟩
              | true =>
                have G6 := hid (T1.1 rfl)
                clear T1
                go_wp2_with fail
                refine (l03Marks_any a1 a2 k1 k2 _ ss bs fs _ (H1.out.stay HB1.out (Nat.le_refl _)) (H4.out.stay HB1.out (Nat.le_refl _)) N1.out N4.out).mono ?_
                rintro e w2 ⟨⟨B2, rfl, T2⟩, hb2⟩
                have z5 := (hb2.cell (p := ⟨w.heap.size + 1, 5, none⟩) hz1).trans y5
                have z6 := (hb2.cell (p := ⟨w.heap.size + 1, 6, none⟩) hz1).trans y6
                have hz2 : w.heap.size + 1 < w2.heap.size := Nat.lt_of_lt_of_le hz1 hb2.size
                have HB2 := hid (HB1.out.trans (hb2.mono HB1.out.size))
                clear hb2 x0 x1 y4 y5 y6 hz1
                cases B2 with
                | false =>
                  have HN := hid (show ¬ BegP ss (⟨1, bg, la, wt, bs, vs, fa⟩ : St) from fun D => absurd (T2.yes D.b) (by decide))
                  clear T2
                  go_wp2
                  go_ret
                  exact ⟨retB_f HN.out, HB2.out⟩
                | true =>
                  have G7 := hid (T2.1 rfl)
                  clear T2
                  go_wp2_with fail
                  refine (l03Vars_any _ vs _ (H5.out.stay HB2.out (Nat.le_refl _)) HF5.out N5.out).mono ?_
                  rintro e w3 ⟨⟨B3, rfl, T3⟩, hb3⟩
                  have y6 := (hb3.cell (p := ⟨w.heap.size + 1, 6, none⟩) hz2).trans z6
                  have HB3 := hid (HB2.out.trans (hb3.mono HB2.out.size))
                  clear hb3 z5 z6 hz2
                  cases B3 with
                  | false =>
                    have HN := hid (show ¬ BegP ss (⟨1, bg, la, wt, bs, vs, fa⟩ : St) from fun D => absurd (T3.yes D.v) (by decide))
                    clear T3
                    go_wp2
                    go_ret
                    exact ⟨retB_f HN.out, HB3.out⟩
                  | true =>
                    have G8 := hid (T3.1 rfl)
                    clear T3
                    go_wp2_with fail
                    refine (l02Time_any fa _).mono ?_
                    rintro e w4 ⟨rfl, rfl⟩
                    cases g9 : timB fa with
                    | false =>
                      have HN := hid (show ¬ BegP ss (⟨1, bg, la, wt, bs, vs, fa⟩ : St) from fun D => by have := D.f; rw [g9] at this; cases this)
                      clear g9
                      go_wp2
                      go_ret
                      exact ⟨retB_f HN.out, HB3.out⟩
                    | true =>
                      have HY := hid (show BegP ss (⟨1, bg, la, wt, bs, vs, fa⟩ : St) from ⟨G1.out, G2.out, G3.out, G4.out, G6.out, G7.out, G8.out, g9⟩)
                      clear g9
                      go_wp2
                      go_ret
                      exact ⟨retB_t HY.out, HB3.out⟩
            · have HN := hid (show ¬ BegP ss (⟨1, bg, la, wt, bs, vs, fa⟩ : St) from fun D => by have := D.m; simp at this; omega)
              go_wp2
              go_ret
              exact ⟨retB_f HN.out, HB.out⟩
          · have HN := hid (show ¬ BegP ss (⟨1, bg, la, wt, bs, vs, fa⟩ : St) from fun D => by have := D.m; simp at this; omega)
            go_wp2
            go_ret
            exact ⟨retB_f HN.out, HB.out⟩
        · have HN := hid (show ¬ BegP ss (⟨1, bg, la, wt, bs, vs, fa⟩ : St) from fun D => g3 D.le)
          go_wp2
          go_ret
          exact ⟨retB_f HN.out, HB.out⟩
set_option maxRecDepth 100000 in
set_option maxHeartbeats 2000000 in
theorem l03Right_2 (a1 a2 a3 a4 a5 : Option Addr) (k1 k2 k3 k4 k5 : Nat) (ss : List ByteArray) (fs : List Pr) (bg la fa : Int) (wt bs : List ByteArray) (vs : List Pr) (w : World) (h1 : StrSl w (.slice a1 ss.length k1) ss) (h3 : StrSl w (.slice a3 wt.length k3) wt) (h4 : StrSl w (.slice a4 bs.length k4) bs) (h5 : PrSl w (.slice a5 vs.length k5) vs) (F5 : FitP vs) (n1 : ss.length ≤ maxLen) (n3 : wt.length ≤ maxLen) (n4 : bs.length ≤ maxLen) (n5 : vs.length ≤ maxLen) :
    Calls Tryz.prog 26 #[.agg #[.slice a1 ss.length k1, .slice a2 fs.length k2], .agg #[.int .i64 2, .int .i64 bg, .int .i64 la, .slice a3 wt.length k3, .slice a4 bs.length k4, .slice a5 vs.length k5, .int .i64 fa]] w fun e w' => RetB e (GoneP (⟨2, bg, la, wt, bs, vs, fa⟩ : St) ∧ BegP ss (⟨2, bg, la, wt, bs, vs, fa⟩ : St)) ∧ Below w.heap.size w w' := by
  have HB := hid (show Below w.heap.size w ((w.alloc (.cells #[.slice a1 ss.length k1, .slice a2 fs.length k2] 26)).alloc (.cells #[.int .i64 2, .int .i64 bg, .int .i64 la, .slice a3 wt.length k3, .slice a4 bs.length k4, .slice a5 vs.length k5, .int .i64 fa] 29)) from below2 _ _ _)
  have H1 := hid h1
  have H3 := hid h3
  have H4 := hid h4
  have H5 := hid h5
  have HF5 := hid F5
  have N1 := hid n1
  have N3 := hid n3
  have N4 := hid n4
  have N5 := hid n5
  unfold maxLen at n3 n4 n5
  clear h1 h3 h4 h5 F5 n1
  rcases lens3 wt.length bs.length with ⟨q1, q2⟩ | ⟨q1, q2⟩ | q1
  · have HG := hid (show GoneP (⟨2, bg, la, wt, bs, vs, fa⟩ : St) from ⟨by show wt.length = 0; simp only [beq_iff_eq] at *; omega, by show bs.length = 0; simp only [beq_iff_eq] at *; omega⟩)
    go_enter Tryz.func26, Tryz.ntmps26
    go_wp2_with fail
    refine (l02Time_any bg _).mono ?_
    rintro e w1 ⟨rfl, rfl⟩
    cases g1 : timB bg with
    | false =>
      have HN := hid (show ¬ BegP ss (⟨2, bg, la, wt, bs, vs, fa⟩ : St) from fun D => by have := D.t1; rw [g1] at this; cases this)
      clear g1
      go_wp2
      go_ret
      exact ⟨retB_f (fun D => HN.out D.2), HB.out⟩
    | true =>
      have G1 := hid g1
      clear g1
      go_wp2_with fail
      refine (l02Time_any la _).mono ?_
      rintro e w1 ⟨rfl, rfl⟩
      cases g2 : timB la with
      | false =>
        have HN := hid (show ¬ BegP ss (⟨2, bg, la, wt, bs, vs, fa⟩ : St) from fun D => by have := D.t2; rw [g2] at this; cases this)
        clear g2
        go_wp2
        go_ret
        exact ⟨retB_f (fun D => HN.out D.2), HB.out⟩
      | true =>
        have G2 := hid g2
        clear g2
        by_cases g3 : bg ≤ la
        · have G3 := hid g3
          by_cases g4 : wt.length ≤ 40
          · by_cases g5 : (bs.length : Int) ≤ 40 - (wt.length : Int)
            · have G4 := hid (show wt.length + bs.length ≤ 40 by omega)
              go_wp2_with fail
              refine (l03Marks_any a1 a2 k1 k2 _ ss wt fs _ (H1.out.stay HB.out (Nat.le_refl _)) (H3.out.stay HB.out (Nat.le_refl _)) N1.out N3.out).mono ?_
              rintro e w1 ⟨⟨B1, rfl, T1⟩, hb1⟩
              have x0 := (hb1.cell (p := ⟨w.heap.size, 0, none⟩) (by simp; omega)).trans (by simp [go_sem] : _ = some (.slice a1 ss.length k1))
              have x1 := (hb1.cell (p := ⟨w.heap.size, 1, none⟩) (by simp; omega)).trans (by simp [go_sem] : _ = some (.slice a2 fs.length k2))
              have y4 := (hb1.cell (p := ⟨w.heap.size + 1, 4, none⟩) (by simp)).trans (by simp [go_sem] : _ = some (.slice a4 bs.length k4))
              have y5 := (hb1.cell (p := ⟨w.heap.size + 1, 5, none⟩) (by simp)).trans (by simp [go_sem] : _ = some (.slice a5 vs.length k5))
              have y6 := (hb1.cell (p := ⟨w.heap.size + 1, 6, none⟩) (by simp)).trans (by simp [go_sem] : _ = some (.int .i64 fa))
              have hz1 : w.heap.size + 1 < w1.heap.size := by have := hb1.size; simp at this; omega
              have HB1 := hid (HB.out.trans (hb1.mono (by simp; omega)))
              clear hb1
              cases B1 with
              | false =>
                have HN := hid (show ¬ BegP ss (⟨2, bg, la, wt, bs, vs, fa⟩ : St) from fun D => absurd (T1.yes D.w) (by decide))
                clear T1
                go_wp2
                go_ret
                exact ⟨retB_f (fun D => HN.out D.2), HB1.out⟩
              | true =>
                have G6 := hid (T1.1 rfl)
                clear T1
                go_wp2_with fail
                refine (l03Marks_any a1 a2 k1 k2 _ ss bs fs _ (H1.out.stay HB1.out (Nat.le_refl _)) (H4.out.stay HB1.out (Nat.le_refl _)) N1.out N4.out).mono ?_
                rintro e w2 ⟨⟨B2, rfl, T2⟩, hb2⟩
                have z5 := (hb2.cell (p := ⟨w.heap.size + 1, 5, none⟩) hz1).trans y5
                have z6 := (hb2.cell (p := ⟨w.heap.size + 1, 6, none⟩) hz1).trans y6
                have hz2 : w.heap.size + 1 < w2.heap.size := Nat.lt_of_lt_of_le hz1 hb2.size
                have HB2 := hid (HB1.out.trans (hb2.mono HB1.out.size))
                clear hb2 x0 x1 y4 y5 y6 hz1
                cases B2 with
                | false =>
                  have HN := hid (show ¬ BegP ss (⟨2, bg, la, wt, bs, vs, fa⟩ : St) from fun D => absurd (T2.yes D.b) (by decide))
                  clear T2
                  go_wp2
                  go_ret
                  exact ⟨retB_f (fun D => HN.out D.2), HB2.out⟩
                | true =>
                  have G7 := hid (T2.1 rfl)
                  clear T2
                  go_wp2_with fail
                  refine (l03Vars_any _ vs _ (H5.out.stay HB2.out (Nat.le_refl _)) HF5.out N5.out).mono ?_
                  rintro e w3 ⟨⟨B3, rfl, T3⟩, hb3⟩
                  have y6 := (hb3.cell (p := ⟨w.heap.size + 1, 6, none⟩) hz2).trans z6
                  have HB3 := hid (HB2.out.trans (hb3.mono HB2.out.size))
                  clear hb3 z5 z6 hz2
                  cases B3 with
                  | false =>
                    have HN := hid (show ¬ BegP ss (⟨2, bg, la, wt, bs, vs, fa⟩ : St) from fun D => absurd (T3.yes D.v) (by decide))
                    clear T3
                    go_wp2
                    go_ret
                    exact ⟨retB_f (fun D => HN.out D.2), HB3.out⟩
                  | true =>
                    have G8 := hid (T3.1 rfl)
                    clear T3
                    go_wp2_with fail
                    refine (l02Time_any fa _).mono ?_
                    rintro e w4 ⟨rfl, rfl⟩
                    cases g9 : timB fa with
                    | false =>
                      have HN := hid (show ¬ BegP ss (⟨2, bg, la, wt, bs, vs, fa⟩ : St) from fun D => by have := D.f; rw [g9] at this; cases this)
                      clear g9
                      go_wp2
                      go_ret
                      exact ⟨retB_f (fun D => HN.out D.2), HB3.out⟩
                    | true =>
                      have HY := hid (show BegP ss (⟨2, bg, la, wt, bs, vs, fa⟩ : St) from ⟨G1.out, G2.out, G3.out, G4.out, G6.out, G7.out, G8.out, g9⟩)
                      clear g9
                      go_wp2
                      go_ret
                      exact ⟨retB_t ⟨HG.out, HY.out⟩, HB3.out⟩
            · have HN := hid (show ¬ BegP ss (⟨2, bg, la, wt, bs, vs, fa⟩ : St) from fun D => by have := D.m; simp at this; omega)
              go_wp2
              go_ret
              exact ⟨retB_f (fun D => HN.out D.2), HB.out⟩
          · have HN := hid (show ¬ BegP ss (⟨2, bg, la, wt, bs, vs, fa⟩ : St) from fun D => by have := D.m; simp at this; omega)
            go_wp2
            go_ret
            exact ⟨retB_f (fun D => HN.out D.2), HB.out⟩
        · have HN := hid (show ¬ BegP ss (⟨2, bg, la, wt, bs, vs, fa⟩ : St) from fun D => g3 D.le)
          go_wp2
          go_ret
          exact ⟨retB_f (fun D => HN.out D.2), HB.out⟩
  · have HG := hid (show ¬ GoneP (⟨2, bg, la, wt, bs, vs, fa⟩ : St) from fun D => by have d1 : wt.length = 0 := D.w; have d2 : bs.length = 0 := D.b; simp only [beq_iff_eq, beq_eq_false_iff_ne, ne_eq] at *; omega)
    go_enter Tryz.func26, Tryz.ntmps26
    go_wp2
    go_ret
    exact ⟨retB_f (fun D => HG.out D.1), HB.out⟩
  · have HG := hid (show ¬ GoneP (⟨2, bg, la, wt, bs, vs, fa⟩ : St) from fun D => by have d1 : wt.length = 0 := D.w; have d2 : bs.length = 0 := D.b; simp only [beq_eq_false_iff_ne, ne_eq] at *; omega)
    go_enter Tryz.func26, Tryz.ntmps26
    go_wp2
    go_ret
    exact ⟨retB_f (fun D => HG.out D.1), HB.out⟩
set_option maxRecDepth 100000 in
set_option maxHeartbeats 2000000 in
theorem l03Right_0 (a1 a2 a3 a4 a5 : Option Addr) (k1 k2 k3 k4 k5 : Nat) (ss : List ByteArray) (fs : List Pr) (bg la fa : Int) (wt bs : List ByteArray) (vs : List Pr) (w : World) (h1 : StrSl w (.slice a1 ss.length k1) ss) (h3 : StrSl w (.slice a3 wt.length k3) wt) (h4 : StrSl w (.slice a4 bs.length k4) bs) (h5 : PrSl w (.slice a5 vs.length k5) vs) (F5 : FitP vs) (n1 : ss.length ≤ maxLen) (n3 : wt.length ≤ maxLen) (n4 : bs.length ≤ maxLen) (n5 : vs.length ≤ maxLen) :
    Calls Tryz.prog 26 #[.agg #[.slice a1 ss.length k1, .slice a2 fs.length k2], .agg #[.int .i64 0, .int .i64 bg, .int .i64 la, .slice a3 wt.length k3, .slice a4 bs.length k4, .slice a5 vs.length k5, .int .i64 fa]] w fun e w' => RetB e (NoneP (⟨0, bg, la, wt, bs, vs, fa⟩ : St)) ∧ Below w.heap.size w w' := by
  have HB := hid (show Below w.heap.size w ((w.alloc (.cells #[.slice a1 ss.length k1, .slice a2 fs.length k2] 26)).alloc (.cells #[.int .i64 0, .int .i64 bg, .int .i64 la, .slice a3 wt.length k3, .slice a4 bs.length k4, .slice a5 vs.length k5, .int .i64 fa] 29)) from below2 _ _ _)
  have H1 := hid h1
  have H3 := hid h3
  have H4 := hid h4
  have H5 := hid h5
  have HF5 := hid F5
  have N1 := hid n1
  have N3 := hid n3
  have N4 := hid n4
  have N5 := hid n5
  unfold maxLen at n3 n4 n5
  clear h1 h3 h4 h5 F5 n1
  rcases lens3 wt.length bs.length with ⟨q1, q2⟩ | ⟨q1, q2⟩ | q1
  · cases q3 : (bg == 0) with
    | true =>
      cases q4 : (la == 0) with
      | true =>
        cases q5 : ((vs.length : Int) == 0) with
        | true =>
          cases q6 : (fa == 0) with
          | true =>
            have HG := hid (show NoneP (⟨0, bg, la, wt, bs, vs, fa⟩ : St) from ⟨by show wt.length = 0; simp only [beq_iff_eq] at *; omega, by show bs.length = 0; simp only [beq_iff_eq] at *; omega, by simpa using q3, by simpa using q4, by show vs.length = 0; simp only [beq_iff_eq] at *; omega, by simpa using q6⟩)
            go_enter Tryz.func26, Tryz.ntmps26
            go_wp2
            go_ret
            exact ⟨retB_t HG.out, HB.out⟩
          | false =>
            have HG := hid (show ¬ NoneP (⟨0, bg, la, wt, bs, vs, fa⟩ : St) from fun D => by have d1 : wt.length = 0 := D.w; have d2 : bs.length = 0 := D.b; have d3 : bg = 0 := D.b0; have d4 : la = 0 := D.l0; have d5 : vs.length = 0 := D.v0; have d6 : fa = 0 := D.f0; simp only [beq_iff_eq, beq_eq_false_iff_ne, ne_eq] at *; omega)
            go_enter Tryz.func26, Tryz.ntmps26
            go_wp2
            go_ret
            exact ⟨retB_f HG.out, HB.out⟩
        | false =>
          have HG := hid (show ¬ NoneP (⟨0, bg, la, wt, bs, vs, fa⟩ : St) from fun D => by have d1 : wt.length = 0 := D.w; have d2 : bs.length = 0 := D.b; have d3 : bg = 0 := D.b0; have d4 : la = 0 := D.l0; have d5 : vs.length = 0 := D.v0; have d6 : fa = 0 := D.f0; simp only [beq_iff_eq, beq_eq_false_iff_ne, ne_eq] at *; omega)
          go_enter Tryz.func26, Tryz.ntmps26
          go_wp2
          go_ret
          exact ⟨retB_f HG.out, HB.out⟩
      | false =>
        have HG := hid (show ¬ NoneP (⟨0, bg, la, wt, bs, vs, fa⟩ : St) from fun D => by have d1 : wt.length = 0 := D.w; have d2 : bs.length = 0 := D.b; have d3 : bg = 0 := D.b0; have d4 : la = 0 := D.l0; have d5 : vs.length = 0 := D.v0; have d6 : fa = 0 := D.f0; simp only [beq_iff_eq, beq_eq_false_iff_ne, ne_eq] at *; omega)
        go_enter Tryz.func26, Tryz.ntmps26
        go_wp2
        go_ret
        exact ⟨retB_f HG.out, HB.out⟩
    | false =>
      have HG := hid (show ¬ NoneP (⟨0, bg, la, wt, bs, vs, fa⟩ : St) from fun D => by have d1 : wt.length = 0 := D.w; have d2 : bs.length = 0 := D.b; have d3 : bg = 0 := D.b0; have d4 : la = 0 := D.l0; have d5 : vs.length = 0 := D.v0; have d6 : fa = 0 := D.f0; simp only [beq_iff_eq, beq_eq_false_iff_ne, ne_eq] at *; omega)
      go_enter Tryz.func26, Tryz.ntmps26
      go_wp2
      go_ret
      exact ⟨retB_f HG.out, HB.out⟩
  · have HG := hid (show ¬ NoneP (⟨0, bg, la, wt, bs, vs, fa⟩ : St) from fun D => by have d1 : wt.length = 0 := D.w; have d2 : bs.length = 0 := D.b; have d3 : bg = 0 := D.b0; have d4 : la = 0 := D.l0; have d5 : vs.length = 0 := D.v0; have d6 : fa = 0 := D.f0; simp only [beq_iff_eq, beq_eq_false_iff_ne, ne_eq] at *; omega)
    go_enter Tryz.func26, Tryz.ntmps26
    go_wp2
    go_ret
    exact ⟨retB_f HG.out, HB.out⟩
  · have HG := hid (show ¬ NoneP (⟨0, bg, la, wt, bs, vs, fa⟩ : St) from fun D => by have d1 : wt.length = 0 := D.w; have d2 : bs.length = 0 := D.b; have d3 : bg = 0 := D.b0; have d4 : la = 0 := D.l0; have d5 : vs.length = 0 := D.v0; have d6 : fa = 0 := D.f0; simp only [beq_eq_false_iff_ne, ne_eq] at *; omega)
    go_enter Tryz.func26, Tryz.ntmps26
    go_wp2
    go_ret
    exact ⟨retB_f HG.out, HB.out⟩
set_option maxRecDepth 100000 in
set_option maxHeartbeats 2000000 in
theorem l03Right_no (a1 a2 a3 a4 a5 : Option Addr) (k1 k2 k3 k4 k5 : Nat) (ss : List ByteArray) (fs : List Pr) (st bg la fa : Int) (wt bs : List ByteArray) (vs : List Pr) (w : World) (h1 : StrSl w (.slice a1 ss.length k1) ss) (h3 : StrSl w (.slice a3 wt.length k3) wt) (h4 : StrSl w (.slice a4 bs.length k4) bs) (h5 : PrSl w (.slice a5 vs.length k5) vs) (F5 : FitP vs) (n1 : ss.length ≤ maxLen) (n3 : wt.length ≤ maxLen) (n4 : bs.length ≤ maxLen) (n5 : vs.length ≤ maxLen) (e0 : (st == 0) = false) (e2 : (st == 2) = false) (e1 : (st == 1) = false) :
    Calls Tryz.prog 26 #[.agg #[.slice a1 ss.length k1, .slice a2 fs.length k2], .agg #[.int .i64 st, .int .i64 bg, .int .i64 la, .slice a3 wt.length k3, .slice a4 bs.length k4, .slice a5 vs.length k5, .int .i64 fa]] w fun e w' => e = .returned (.bool false) ∧ Below w.heap.size w w' := by
  have HB := hid (show Below w.heap.size w ((w.alloc (.cells #[.slice a1 ss.length k1, .slice a2 fs.length k2] 26)).alloc (.cells #[.int .i64 st, .int .i64 bg, .int .i64 la, .slice a3 wt.length k3, .slice a4 bs.length k4, .slice a5 vs.length k5, .int .i64 fa] 29)) from below2 _ _ _)
  have H1 := hid h1
  have H3 := hid h3
  have H4 := hid h4
  have H5 := hid h5
  have HF5 := hid F5
  have N1 := hid n1
  have N3 := hid n3
  have N4 := hid n4
  have N5 := hid n5
  unfold maxLen at n3 n4 n5
  clear h1 h3 h4 h5 F5 n1
  rcases lens3 wt.length bs.length with ⟨q1, q2⟩ | ⟨q1, q2⟩ | q1
  all_goals
    go_enter Tryz.func26, Tryz.ntmps26
    go_wp2
    go_ret
    exact ⟨rfl, HB.out⟩
theorem l03Right_any (a1 a2 a3 a4 a5 : Option Addr) (k1 k2 k3 k4 k5 : Nat) (ss : List ByteArray) (fs : List Pr) (st bg la fa : Int) (wt bs : List ByteArray) (vs : List Pr) (w : World) (h1 : StrSl w (.slice a1 ss.length k1) ss) (h3 : StrSl w (.slice a3 wt.length k3) wt) (h4 : StrSl w (.slice a4 bs.length k4) bs) (h5 : PrSl w (.slice a5 vs.length k5) vs) (F5 : FitP vs) (n1 : ss.length ≤ maxLen) (n3 : wt.length ≤ maxLen) (n4 : bs.length ≤ maxLen) (n5 : vs.length ≤ maxLen) :
    Calls Tryz.prog 26 #[.agg #[.slice a1 ss.length k1, .slice a2 fs.length k2], .agg #[.int .i64 st, .int .i64 bg, .int .i64 la, .slice a3 wt.length k3, .slice a4 bs.length k4, .slice a5 vs.length k5, .int .i64 fa]] w fun e w' => RetB e (StP ss (⟨st, bg, la, wt, bs, vs, fa⟩ : St)) ∧ Below w.heap.size w w' := by
  by_cases e0 : st = 0
  · subst e0
    exact (l03Right_0 a1 a2 a3 a4 a5 k1 k2 k3 k4 k5 ss fs bg la fa wt bs vs w h1 h3 h4 h5 F5 n1 n3 n4 n5).mono fun e w' h => ⟨retB_iff h.1 (stP_0 rfl).symm, h.2⟩
  · by_cases e1 : st = 1
    · subst e1
      exact (l03Right_1 a1 a2 a3 a4 a5 k1 k2 k3 k4 k5 ss fs bg la fa wt bs vs w h1 h3 h4 h5 F5 n1 n3 n4 n5).mono fun e w' h => ⟨retB_iff h.1 (stP_1 rfl).symm, h.2⟩
    · by_cases e2 : st = 2
      · subst e2
        exact (l03Right_2 a1 a2 a3 a4 a5 k1 k2 k3 k4 k5 ss fs bg la fa wt bs vs w h1 h3 h4 h5 F5 n1 n3 n4 n5).mono fun e w' h => ⟨retB_iff h.1 (stP_2 rfl).symm, h.2⟩
      · refine (l03Right_no a1 a2 a3 a4 a5 k1 k2 k3 k4 k5 ss fs st bg la fa wt bs vs w h1 h3 h4 h5 F5 n1 n3 n4 n5 (by simpa using e0) (by simpa using e2) (by simpa using e1)).mono ?_
        rintro e w' ⟨rfl, hb⟩
        exact ⟨retB_f (stP_no e0 e1 e2), hb⟩
set_option maxRecDepth 100000 in
set_option maxHeartbeats 2000000 in
theorem specStateRight_any (a1 a2 a3 a4 a5 : Option Addr) (k1 k2 k3 k4 k5 : Nat) (ss : List ByteArray) (fs : List Pr) (st bg la fa : Int) (wt bs : List ByteArray) (vs : List Pr) (w : World) (h2 : PrSl w (.slice a2 fs.length k2) fs) (F1 : ∀ i, (h : i < ss.length) → ss[i].size ≤ maxLen) (n2 : fs.length ≤ maxLen) (h1 : StrSl w (.slice a1 ss.length k1) ss) (h3 : StrSl w (.slice a3 wt.length k3) wt) (h4 : StrSl w (.slice a4 bs.length k4) bs) (h5 : PrSl w (.slice a5 vs.length k5) vs) (F5 : FitP vs) (n1 : ss.length ≤ maxLen) (n3 : wt.length ≤ maxLen) (n4 : bs.length ≤ maxLen) (n5 : vs.length ≤ maxLen) :
    Calls Tryz.prog 9 #[.agg #[.slice a1 ss.length k1, .slice a2 fs.length k2], .agg #[.int .i64 st, .int .i64 bg, .int .i64 la, .slice a3 wt.length k3, .slice a4 bs.length k4, .slice a5 vs.length k5, .int .i64 fa]] w fun e w' => RetB e (DefP ss fs ∧ StP ss (⟨st, bg, la, wt, bs, vs, fa⟩ : St)) ∧ Below w.heap.size w w' := by
  have hb0 : Below w.heap.size w ((w.alloc (.cells #[.slice a1 ss.length k1, .slice a2 fs.length k2] 26)).alloc (.cells #[.int .i64 st, .int .i64 bg, .int .i64 la, .slice a3 wt.length k3, .slice a4 bs.length k4, .slice a5 vs.length k5, .int .i64 fa] 29)) := below2 _ _ _
  have HB := hid hb0
  have c1 := specDefRight_any a1 a2 k1 k2 ss fs _ (h1.stay hb0 (Nat.le_refl _)) (h2.stay hb0 (Nat.le_refl _)) F1 n1 n2
  have HR := hid (fun W (hb : Below w.heap.size w W) => l03Right_any a1 a2 a3 a4 a5 k1 k2 k3 k4 k5 ss fs st bg la fa wt bs vs W (h1.stay hb (Nat.le_refl _)) (h3.stay hb (Nat.le_refl _)) (h4.stay hb (Nat.le_refl _)) (h5.stay hb (Nat.le_refl _)) F5 n1 n3 n4 n5)
  clear hb0 h1 h2 h3 h4 h5 F1 F5 n1 n2 n3 n4 n5
  go_enter Tryz.func9, Tryz.ntmps9
  go_wp2_with fail
  refine c1.mono ?_
  rintro e w1 ⟨⟨B1, rfl, T1⟩, hb1⟩
  have x0 := (hb1.cell (p := ⟨w.heap.size, 0, none⟩) (by simp; omega)).trans (by simp [go_sem] : _ = some (.slice a1 ss.length k1))
  have x1 := (hb1.cell (p := ⟨w.heap.size, 1, none⟩) (by simp; omega)).trans (by simp [go_sem] : _ = some (.slice a2 fs.length k2))
  have y0 := (hb1.cell (p := ⟨w.heap.size + 1, 0, none⟩) (by simp)).trans (by simp [go_sem] : _ = some (.int .i64 st))
  have y1 := (hb1.cell (p := ⟨w.heap.size + 1, 1, none⟩) (by simp)).trans (by simp [go_sem] : _ = some (.int .i64 bg))
  have y2 := (hb1.cell (p := ⟨w.heap.size + 1, 2, none⟩) (by simp)).trans (by simp [go_sem] : _ = some (.int .i64 la))
  have y3 := (hb1.cell (p := ⟨w.heap.size + 1, 3, none⟩) (by simp)).trans (by simp [go_sem] : _ = some (.slice a3 wt.length k3))
  have y4 := (hb1.cell (p := ⟨w.heap.size + 1, 4, none⟩) (by simp)).trans (by simp [go_sem] : _ = some (.slice a4 bs.length k4))
  have y5 := (hb1.cell (p := ⟨w.heap.size + 1, 5, none⟩) (by simp)).trans (by simp [go_sem] : _ = some (.slice a5 vs.length k5))
  have y6 := (hb1.cell (p := ⟨w.heap.size + 1, 6, none⟩) (by simp)).trans (by simp [go_sem] : _ = some (.int .i64 fa))
  have HB1 := hid (HB.out.trans (hb1.mono (by simp; omega)))
  clear hb1 c1
  cases B1 with
  | false =>
    have HN := hid (show ¬ DefP ss fs from fun D => absurd (T1.yes D) (by decide))
    clear T1
    go_wp2
    go_ret
    exact ⟨retB_f (fun D => HN.out D.1), HB1.out⟩
  | true =>
    have HY := hid (T1.1 rfl)
    clear T1
    go_wp2_with fail
    refine (HR.out _ HB1.out).mono ?_
    rintro e w2 ⟨⟨B2, rfl, T2⟩, hb2⟩
    have HB2 := hid (HB1.out.trans (hb2.mono HB1.out.size))
    have HT := hid T2
    clear hb2 T2 x0 x1 y0 y1 y2 y3 y4 y5 y6
    go_wp2
    go_ret
    exact ⟨⟨B2, rfl, ⟨fun e => ⟨HY.out, HT.out.1 e⟩, fun D => HT.out.2 D.2⟩⟩, HB2.out⟩
end Go.Proofs.YtdggmeblnbabbaaGreatDoor
