/-
  Texts put together: SvM, ImSvR, SpSvR.
-/
import Derived.Test.YtadidjhcgmeadaaGreatDoorZItrE4
import Derived.Test.YtadidjhcgmeadaaGreatDoorZImHist
import Derived.Test.YtadidjhcgmeadaaGreatDoorZSpHist
/-
  A Service that is right. Of no function.
-/
namespace Go.Proofs.YtadidjhcgmeadaaGreatDoor
open Go.RowKit

abbrev svV (a1 a2 a6 : Option Addr) (k1 k2 k6 : Nat) (ss : List ByteArray) (fs : List Pr) (es : List Ev) (nx : Int) : Value := .agg #[.slice a1 ss.length k1, .slice a2 fs.length k2, .slice a6 es.length k6, .int .i64 nx]
structure SvP (ss : List ByteArray) (fs : List Pr) (es : List Ev) (nx : Int) : Prop where
  h : HistP ss fs es
  n : numB nx = true
  l : ∀ h : 0 < es.length, es[es.length - 1].seq < nx
theorem numB_iff (n : Int) : numB n = true ↔ 1 ≤ n ∧ n ≤ 1000000 := by simp [numB]
end Go.Proofs.YtadidjhcgmeadaaGreatDoor

/-
  What impl.ServiceRight answers: a contract over the seat's program. (Made by mksvr.py.)
-/
namespace Go.Proofs.YtadidjhcgmeadaaGreatDoor
open Go.RowKit Go.Sort

set_option maxRecDepth 100000 in
set_option maxHeartbeats 4000000 in
theorem implServiceRight_any (a1 a2 a6 : Option Addr) (k1 k2 k6 : Nat) (ss : List ByteArray) (fs : List Pr) (es : List Ev) (nx : Int) (w : World) (hD : DefSl w a1 a2 k1 k2 ss fs) (hE : EvSl w (.slice a6 es.length k6) es) (F1 : ∀ i, (h : i < ss.length) → ss[i].size ≤ maxLen) (F2 : FitP fs) (FE : Fit es) (n1 : ss.length ≤ maxLen) (n2 : fs.length ≤ maxLen) (n6 : es.length ≤ maxLen) (e0 e1 e2 e3 e4 : Addr) (hEr : ErrsAt w e0 e1 e2 e3 e4) :
    Calls Tryz.prog 26 #[svV a1 a2 a6 k1 k2 k6 ss fs es nx] w fun x w' => RetB x (SvP ss fs es nx) ∧ Below w.heap.size w w' := by
  have hbW : Below w.heap.size w (w.alloc (.cells #[.slice a1 ss.length k1, .slice a2 fs.length k2, .slice a6 es.length k6, .int .i64 nx] 55)) := (Below.refl _ _).alloc (Nat.le_refl _) _
  have HX := hid (heap_alloc_new w (.cells #[.slice a1 ss.length k1, .slice a2 fs.length k2, .slice a6 es.length k6, .int .i64 nx] 55))
  have HDW := hid (hD.stay hbW)
  have HEW := hid (hE.stay hbW (Nat.le_refl _))
  have HBW := hid hbW
  have HER := hid (hEr.stay hbW)
  have cR := hid (fun X (hX : Below (w.alloc (.cells #[.slice a1 ss.length k1, .slice a2 fs.length k2, .slice a6 es.length k6, .int .i64 nx] 55)).heap.size (w.alloc (.cells #[.slice a1 ss.length k1, .slice a2 fs.length k2, .slice a6 es.length k6, .int .i64 nx] 55)) X) => implHistoryRight_any a1 a2 a6 k1 k2 k6 ss fs es X (HDW.out.stay hX) (HEW.out.stay hX (Nat.le_refl _)) F1 F2 (fun i h => (FE i h).1) n1 n2 n6 e0 e1 e2 e3 e4 (HER.out.stay hX))
  change Hid (∀ X (hX : Below _ _ X), Calls _ _ #[.agg #[.slice a1 ss.length k1, .slice a2 fs.length k2], .slice a6 es.length k6] _ _) at cR
  have hn6 : es.length ≤ 9223372036854775807 := by unfold maxLen at n6; omega
  clear hD hE hbW F1 FE n1 n2 n6 F2 hEr
  go_enter Tryz.func26, Tryz.ntmps26
  go_wp2_with fail
  generalize hW : (w.alloc (.cells #[.slice a1 ss.length k1, .slice a2 fs.length k2, .slice a6 es.length k6, .int .i64 nx] 55)) = W at *
  have hzW : W.heap.size = w.heap.size + 1 := by rw [← hW]; simp
  clear hW
  have cN := isNumber_any nx W
  have HBn := hid (Below.refl W.heap.size W)
  cases hnu : numB nx with
  | false =>
    have HN := hid (show ¬ SvP ss fs es nx from fun h => by have := h.n; rw [hnu] at this; cases this)
    rw [hnu] at cN
    clear hnu
    refine cN.mono ?_
    rintro x _ ⟨rfl, rfl⟩
    go_wp2
    go_ret
    exact ⟨retB_f HN.out, HBW.out⟩
  | true =>
    have HNU := hid hnu
    rw [hnu] at cN
    clear hnu
    refine cN.mono ?_
    rintro x W1 ⟨rfl, hw1⟩
    subst hw1
    clear cN
    have c0 : W1.cell? ⟨w.heap.size, 0, none⟩ = some (.slice a1 ss.length k1) := by rw [Lib.cell_of_heap HX.out]; rfl
    have c1 : W1.cell? ⟨w.heap.size, 1, none⟩ = some (.slice a2 fs.length k2) := by rw [Lib.cell_of_heap HX.out]; rfl
    have c2 : W1.cell? ⟨w.heap.size, 2, none⟩ = some (.slice a6 es.length k6) := by rw [Lib.cell_of_heap HX.out]; rfl
    have c3 : W1.cell? ⟨w.heap.size, 3, none⟩ = some (.int .i64 nx) := by rw [Lib.cell_of_heap HX.out]; rfl
    go_wp2_with fail
    refine (cR.out _ HBn.out).mono ?_
    rintro x W2 ⟨⟨B1, rfl, T⟩, hb1⟩
    clear HBn c0 c1 c2 c3
    have HBn := hid hb1
    have HT := hid T
    have hz1 := hb1.size
    have HXn := hid ((hb1.block _ (lt_heap HX.out)).trans HX.out)
    clear T hb1 cR
    cases B1 with
    | false =>
      have HN := hid (show ¬ SvP ss fs es nx from fun h => absurd (HT.out.yes h.h) (by decide))
      go_wp2
      go_ret
      exact ⟨retB_f HN.out, HBW.out.trans (HBn.out.mono (by omega))⟩
    | true =>
      have HP := hid (show HistP ss fs es from HT.out.1 rfl)
      have fz := Lib.frozen_of_heap HXn.out
      have c0 : W2.cell? ⟨w.heap.size, 0, none⟩ = some (.slice a1 ss.length k1) := by rw [Lib.cell_of_heap HXn.out]; rfl
      have c1 : W2.cell? ⟨w.heap.size, 1, none⟩ = some (.slice a2 fs.length k2) := by rw [Lib.cell_of_heap HXn.out]; rfl
      have c2 : W2.cell? ⟨w.heap.size, 2, none⟩ = some (.slice a6 es.length k6) := by rw [Lib.cell_of_heap HXn.out]; rfl
      have c3 : W2.cell? ⟨w.heap.size, 3, none⟩ = some (.int .i64 nx) := by rw [Lib.cell_of_heap HXn.out]; rfl
      have hbox := lt_heap HXn.out
      by_cases hL : 0 < es.length
      · obtain ⟨g, o, rfl, hQ⟩ := HEW.out.row hL
        have q0 := ((hQ.stay HBn.out (Nat.le_refl _)).2 (es.length - 1) (by omega)).c0
        have HYES := hid (show es[es.length - 1].seq < nx → SvP ss fs es nx from fun h => ⟨HP.out, HNU.out, fun _ => h⟩)
        have HNOT := hid (show ¬ es[es.length - 1].seq < nx → ¬ SvP ss fs es nx from fun h H => h (H.l hL))
        have d0 : W2.drew.cell? ⟨w.heap.size, 0, none⟩ = some (.slice a1 ss.length k1) := c0
        have d2 : W2.drew.cell? ⟨w.heap.size, 2, none⟩ = some (.slice (some ⟨g, o, none⟩) es.length k6) := c2
        have d3 : W2.drew.cell? ⟨w.heap.size, 3, none⟩ = some (.int .i64 nx) := c3
        have d4 : W2.drew.cell? ⟨g, o + (es.length - 1) * 6, none⟩ = some (.int .i64 es[es.length - 1].seq) := q0
        clear hQ q0
        generalize es[es.length - 1].seq = sq at *
        have HB9 := hid (HBW.out.trans ((HBn.out.drew).mono (by omega)))
        clear HBn HBW HEW HP
        generalize es.length = n at *
        obtain ⟨m, rfl⟩ : ∃ m, n = m + 1 := ⟨n - 1, by omega⟩
        rw [Nat.add_sub_cancel] at d4
        have e1 : (((m + 1 : Nat) : Int) - 1) = (m : Int) := by omega
        have r1 : (((m : Int) + 1) == 0) = false := by simp; omega
        have r2 : (m : Int) < (m : Int) + 1 := by omega
        have r3 : decide ((m : Int) < 0) = false := by simp
        have r4 : (0 : Int) ≤ (m : Int) := by omega
        have r5 : IntKind.i64.wrap (m : Int) = (m : Int) := by rw [IntKind.wrap_i64]; omega
        by_cases hsq : sq < nx
        · go_wp2_with fail
          go_region
          go_wp2
          go_ret
          exact ⟨retB_t (HYES.out hsq), HB9.out⟩
        · go_wp2_with fail
          go_region
          go_wp2
          go_ret
          refine ⟨?_, HB9.out⟩
          show RetB (.returned (.bool (decide (sq < nx)))) _
          rw [decide_eq_false (Int.not_lt.2 hsq)]
          exact retB_f (HNOT.out hsq)
      · have HYES := hid (show SvP ss fs es nx from ⟨HP.out, HNU.out, fun h => absurd h hL⟩)
        have hL0 : es.length = 0 := by omega
        have HB9 := hid (HBW.out.trans ((HBn.out.drew).mono (by omega)))
        clear HBn HBW HEW HP
        rw [hL0] at c2
        go_wp2_with fail
        go_region
        go_wp2
        go_ret
        exact ⟨retB_t HYES.out, HB9.out⟩
end Go.Proofs.YtadidjhcgmeadaaGreatDoor

/-
  What spec.ServiceRight answers: a contract over the seat's program. (Made by mksvr.py.)
-/
namespace Go.Proofs.YtadidjhcgmeadaaGreatDoor
open Go.RowKit Go.Sort

set_option maxRecDepth 100000 in
set_option maxHeartbeats 4000000 in
theorem specServiceRight_any (a1 a2 a6 : Option Addr) (k1 k2 k6 : Nat) (ss : List ByteArray) (fs : List Pr) (es : List Ev) (nx : Int) (w : World) (hD : DefSl w a1 a2 k1 k2 ss fs) (hE : EvSl w (.slice a6 es.length k6) es) (F1 : ∀ i, (h : i < ss.length) → ss[i].size ≤ maxLen) (FE : Fit es) (n1 : ss.length ≤ maxLen) (n2 : fs.length ≤ maxLen) (n6 : es.length ≤ maxLen) :
    Calls Tryz.prog 24 #[svV a1 a2 a6 k1 k2 k6 ss fs es nx] w fun x w' => RetB x (SvP ss fs es nx) ∧ Below w.heap.size w w' := by
  have hbW : Below w.heap.size w (w.alloc (.cells #[.slice a1 ss.length k1, .slice a2 fs.length k2, .slice a6 es.length k6, .int .i64 nx] 55)) := (Below.refl _ _).alloc (Nat.le_refl _) _
  have HX := hid (heap_alloc_new w (.cells #[.slice a1 ss.length k1, .slice a2 fs.length k2, .slice a6 es.length k6, .int .i64 nx] 55))
  have HDW := hid (hD.stay hbW)
  have HEW := hid (hE.stay hbW (Nat.le_refl _))
  have HBW := hid hbW
  have cR := hid (specHistoryRight_any a1 a2 a6 k1 k2 k6 ss fs es _ HDW.out HEW.out F1 FE n1 n2 n6)
  change Hid (Calls _ _ #[.agg #[.slice a1 ss.length k1, .slice a2 fs.length k2], .slice a6 es.length k6] _ _) at cR
  have hn6 : es.length ≤ 9223372036854775807 := by unfold maxLen at n6; omega
  clear hD hE hbW F1 FE n1 n2 n6
  go_enter Tryz.func24, Tryz.ntmps24
  go_wp2_with fail
  refine cR.out.mono ?_
  generalize hW : (w.alloc (.cells #[.slice a1 ss.length k1, .slice a2 fs.length k2, .slice a6 es.length k6, .int .i64 nx] 55)) = W at *
  have hzW : W.heap.size = w.heap.size + 1 := by rw [← hW]; simp
  clear hW cR
  rintro x W1 ⟨⟨B1, rfl, T⟩, hb1⟩
  have HBn := hid hb1
  have HT := hid T
  have hz1 := hb1.size
  have HXn := hid ((hb1.block _ (lt_heap HX.out)).trans HX.out)
  clear T hb1
  have c3 : W1.cell? ⟨w.heap.size, 3, none⟩ = some (.int .i64 nx) := by rw [Lib.cell_of_heap HXn.out]; rfl
  cases B1 with
  | false =>
    have HN := hid (show ¬ SvP ss fs es nx from fun h => absurd (HT.out.yes h.h) (by decide))
    go_wp2
    go_ret
    exact ⟨retB_f HN.out, HBW.out.trans (HBn.out.mono (by omega))⟩
  | true =>
    have HP := hid (show HistP ss fs es from HT.out.1 rfl)
    have cN : Calls Tryz.prog 64 #[.int .i64 nx, .int .i64 1, .int .i64 1000000] W1 fun e w' => e = .returned (.bool (numB nx)) ∧ w' = W1 := l02Is_any nx 1 1000000 W1
    cases hnu : numB nx with
    | false =>
      have HN := hid (show ¬ SvP ss fs es nx from fun h => by have := h.n; rw [hnu] at this; cases this)
      rw [hnu] at cN
      clear hnu
      go_wp2_with fail
      refine cN.mono ?_
      rintro x _ ⟨rfl, rfl⟩
      go_wp2
      go_ret
      exact ⟨retB_f HN.out, HBW.out.trans (HBn.out.mono (by omega))⟩
    | true =>
      have HNU := hid hnu
      rw [hnu] at cN
      clear hnu
      go_wp2_with fail
      refine cN.mono ?_
      rintro x W2 ⟨rfl, hw2⟩
      subst hw2
      clear cN c3
      have fz := Lib.frozen_of_heap HXn.out
      have c0 : W2.cell? ⟨w.heap.size, 0, none⟩ = some (.slice a1 ss.length k1) := by rw [Lib.cell_of_heap HXn.out]; rfl
      have c1 : W2.cell? ⟨w.heap.size, 1, none⟩ = some (.slice a2 fs.length k2) := by rw [Lib.cell_of_heap HXn.out]; rfl
      have c2 : W2.cell? ⟨w.heap.size, 2, none⟩ = some (.slice a6 es.length k6) := by rw [Lib.cell_of_heap HXn.out]; rfl
      have c3 : W2.cell? ⟨w.heap.size, 3, none⟩ = some (.int .i64 nx) := by rw [Lib.cell_of_heap HXn.out]; rfl
      have hbox := lt_heap HXn.out
      by_cases hL : 0 < es.length
      · obtain ⟨g, o, rfl, hQ⟩ := HEW.out.row hL
        have q0 := ((hQ.stay HBn.out (Nat.le_refl _)).2 (es.length - 1) (by omega)).c0
        have HYES := hid (show es[es.length - 1].seq < nx → SvP ss fs es nx from fun h => ⟨HP.out, HNU.out, fun _ => h⟩)
        have HNOT := hid (show ¬ es[es.length - 1].seq < nx → ¬ SvP ss fs es nx from fun h H => h (H.l hL))
        have d0 : W2.drew.cell? ⟨w.heap.size, 0, none⟩ = some (.slice a1 ss.length k1) := c0
        have d2 : W2.drew.cell? ⟨w.heap.size, 2, none⟩ = some (.slice (some ⟨g, o, none⟩) es.length k6) := c2
        have d3 : W2.drew.cell? ⟨w.heap.size, 3, none⟩ = some (.int .i64 nx) := c3
        have d4 : W2.drew.cell? ⟨g, o + (es.length - 1) * 6, none⟩ = some (.int .i64 es[es.length - 1].seq) := q0
        clear hQ q0
        generalize es[es.length - 1].seq = sq at *
        have HB9 := hid (HBW.out.trans ((HBn.out.drew).mono (by omega)))
        clear HBn HBW HEW HP
        generalize es.length = n at *
        obtain ⟨m, rfl⟩ : ∃ m, n = m + 1 := ⟨n - 1, by omega⟩
        rw [Nat.add_sub_cancel] at d4
        have e1 : (((m + 1 : Nat) : Int) - 1) = (m : Int) := by omega
        have r1 : (((m : Int) + 1) == 0) = false := by simp; omega
        have r2 : (m : Int) < (m : Int) + 1 := by omega
        have r3 : decide ((m : Int) < 0) = false := by simp
        have r4 : (0 : Int) ≤ (m : Int) := by omega
        have r5 : IntKind.i64.wrap (m : Int) = (m : Int) := by rw [IntKind.wrap_i64]; omega
        by_cases hsq : sq < nx
        · go_wp2_with fail
          go_region
          go_wp2
          go_ret
          exact ⟨retB_t (HYES.out hsq), HB9.out⟩
        · go_wp2_with fail
          go_region
          go_wp2
          go_ret
          refine ⟨?_, HB9.out⟩
          show RetB (.returned (.bool (decide (sq < nx)))) _
          rw [decide_eq_false (Int.not_lt.2 hsq)]
          exact retB_f (HNOT.out hsq)
      · have HYES := hid (show SvP ss fs es nx from ⟨HP.out, HNU.out, fun h => absurd h hL⟩)
        have hL0 : es.length = 0 := by omega
        have HB9 := hid (HBW.out.trans ((HBn.out.drew).mono (by omega)))
        clear HBn HBW HEW HP
        rw [hL0] at c2
        go_wp2_with fail
        go_region
        go_wp2
        go_ret
        exact ⟨retB_t HYES.out, HB9.out⟩
end Go.Proofs.YtadidjhcgmeadaaGreatDoor
