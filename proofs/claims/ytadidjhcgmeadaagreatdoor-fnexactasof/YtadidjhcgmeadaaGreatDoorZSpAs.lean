/-
  What spec.AsOf answers: a contract over the seat's program. (Made by mkas.py.)
-/
import Derived.Test.YtadidjhcgmeadaaGreatDoorZOfSm2
import Derived.Test.YtadidjhcgmeadaaGreatDoorZSpHist
import Derived.Deep.RegionHeld3
namespace Go.Proofs.YtadidjhcgmeadaaGreatDoor
open Go.RowKit Go.Sort Go.Shelf

set_option maxRecDepth 100000 in
set_option maxHeartbeats 8000000 in
theorem specAsOf_any (a1 a2 a6 : Option Addr) (k1 k2 k6 : Nat) (ss : List ByteArray) (fs : List Pr) (es : List Ev) (r t : Int) (w : World) (hD : DefSl w a1 a2 k1 k2 ss fs) (hE : EvSl w (.slice a6 es.length k6) es) (F1 : ∀ i, (h : i < ss.length) → ss[i].size ≤ maxLen) (FE : Fit es) (n1 : ss.length ≤ maxLen) (n2 : fs.length ≤ maxLen) (n6 : es.length ≤ maxLen) :
    Calls Tryz.prog 16 #[defV a1 a2 k1 k2 ss fs, .slice a6 es.length k6, .int .i64 r, .int .i64 t] w fun x w' => StepPost w.heap.size w (asS ss fs es r t).1 (asS ss fs es r t).2 x w' := by
  have hbW : Below w.heap.size w ((w.alloc (.cells #[.slice a1 ss.length k1, .slice a2 fs.length k2] 32)).alloc (.cells #[.int .i64 0, .int .i64 0, .int .i64 0, .slice none 0 0, .slice none 0 0, .slice none 0 0, .int .i64 0, .int .i64 0] 43)) := ((Below.refl _ _).alloc (Nat.le_refl _) _).alloc (by simp) _
  have hWs : ((w.alloc (.cells #[.slice a1 ss.length k1, .slice a2 fs.length k2] 32)).alloc (.cells #[.int .i64 0, .int .i64 0, .int .i64 0, .slice none 0 0, .slice none 0 0, .slice none 0 0, .int .i64 0, .int .i64 0] 43)).heap.size = w.heap.size + 1 + 1 := by simp
  have HRW := hid (show ((w.alloc (.cells #[.slice a1 ss.length k1, .slice a2 fs.length k2] 32)).alloc (.cells #[.int .i64 0, .int .i64 0, .int .i64 0, .slice none 0 0, .slice none 0 0, .slice none 0 0, .int .i64 0, .int .i64 0] 43)).heap[w.heap.size + 1]? = some (.cells #[.int .i64 0, .int .i64 0, .int .i64 0, .slice none 0 0, .slice none 0 0, .slice none 0 0, .int .i64 0, .int .i64 0] 43 (0, 0)) from by
    have h := heap_alloc_new (w.alloc (.cells #[.slice a1 ss.length k1, .slice a2 fs.length k2] 32)) (.cells #[.int .i64 0, .int .i64 0, .int .i64 0, .slice none 0 0, .slice none 0 0, .slice none 0 0, .int .i64 0, .int .i64 0] 43 (0, 0))
    rw [show (w.alloc (.cells #[.slice a1 ss.length k1, .slice a2 fs.length k2] 32)).heap.size = w.heap.size + 1 by simp] at h
    exact h)
  have HXW := hid ((Below.heap_alloc (w.alloc (.cells #[.slice a1 ss.length k1, .slice a2 fs.length k2] 32)) (.cells #[.int .i64 0, .int .i64 0, .int .i64 0, .slice none 0 0, .slice none 0 0, .slice none 0 0, .int .i64 0, .int .i64 0] 43) w.heap.size (by simp)).trans (heap_alloc_new w (.cells #[.slice a1 ss.length k1, .slice a2 fs.length k2] 32)))
  have HDW := hid (hD.stay hbW)
  have HEW := hid (hE.stay hbW (Nat.le_refl _))
  have HBW := hid hbW
  have cR := hid (specHistoryRight_any a1 a2 a6 k1 k2 k6 ss fs es _ HDW.out HEW.out F1 FE n1 n2 n6)
  change Hid (Calls _ _ #[.agg #[.slice a1 ss.length k1, .slice a2 fs.length k2], .slice a6 es.length k6] _ _) at cR
  have HFE := hid FE
  have N1 := hid n1
  have N2 := hid n2
  have N6 := hid n6
  have hn6 : es.length ≤ 9223372036854775807 := by unfold maxLen at n6; omega
  clear hD hE hbW F1 FE n1 n2 n6
  by_cases h4 : 400 < es.length
  · have HFIN := hid (asS_big ss fs r t h4)
    clear cR HDW HEW
    go_enter Tryz.func16, Tryz.ntmps16
    go_upto_region 1 with fail
    generalize ((w.alloc (.cells #[.slice a1 ss.length k1, .slice a2 fs.length k2] 32)).alloc (.cells #[.int .i64 0, .int .i64 0, .int .i64 0, .slice none 0 0, .slice none 0 0, .slice none 0 0, .int .i64 0, .int .i64 0] 43)) = W at *
    have r0 : W.cell? ⟨w.heap.size + 1, 0, none⟩ = some (.int .i64 0) := by rw [Lib.cell_of_heap HRW.out]; rfl
    have r1 : W.cell? ⟨w.heap.size + 1, 1, none⟩ = some (.int .i64 0) := by rw [Lib.cell_of_heap HRW.out]; rfl
    have r2 : W.cell? ⟨w.heap.size + 1, 2, none⟩ = some (.int .i64 0) := by rw [Lib.cell_of_heap HRW.out]; rfl
    have r3 : W.cell? ⟨w.heap.size + 1, 3, none⟩ = some (.slice none 0 0) := by rw [Lib.cell_of_heap HRW.out]; rfl
    have r4 : W.cell? ⟨w.heap.size + 1, 4, none⟩ = some (.slice none 0 0) := by rw [Lib.cell_of_heap HRW.out]; rfl
    have r5 : W.cell? ⟨w.heap.size + 1, 5, none⟩ = some (.slice none 0 0) := by rw [Lib.cell_of_heap HRW.out]; rfl
    have r6 : W.cell? ⟨w.heap.size + 1, 6, none⟩ = some (.int .i64 0) := by rw [Lib.cell_of_heap HRW.out]; rfl
    have r7 : W.cell? ⟨w.heap.size + 1, 7, none⟩ = some (.int .i64 0) := by rw [Lib.cell_of_heap HRW.out]; rfl
    have rf := Lib.frozen_of_heap HRW.out
    go_wp2_with fail
    have hCR : Chg (fun j => j = w.heap.size + 1) W ((((((((W.setCell ⟨w.heap.size + 1, 0, none⟩ (.int .i64 0)).setCell ⟨w.heap.size + 1, 1, none⟩ (.int .i64 0)).setCell ⟨w.heap.size + 1, 2, none⟩ (.int .i64 0)).setCell ⟨w.heap.size + 1, 3, none⟩ (.slice none 0 0)).setCell ⟨w.heap.size + 1, 4, none⟩ (.slice none 0 0)).setCell ⟨w.heap.size + 1, 5, none⟩ (.slice none 0 0)).setCell ⟨w.heap.size + 1, 6, none⟩ (.int .i64 0)).setCell ⟨w.heap.size + 1, 7, none⟩ (.int .i64 2)) := (((((((chg_set _ _ _ _).trans (chg_set _ _ _ _)).trans (chg_set _ _ _ _)).trans (chg_set _ _ _ _)).trans (chg_set _ _ _ _)).trans (chg_set _ _ _ _)).trans (chg_set _ _ _ _)).trans (chg_set _ _ _ _)
    refine bodyPost_ret (v := outV 2 z0 (.slice none 0 0) (.slice none 0 0) (.slice none 0 0)) (by simp [results, Tryz.results16, go_sem, outV, z0, r0, r1, r2, r3, r4, r5, r6, r7]) rfl ?_
    show StepPost _ _ (asS ss fs es r t).1 (asS ss fs es r t).2 _ _
    rw [HFIN.out]
    exact ⟨_, _, _, rfl, StOwn.none _ _, HBW.out.trans (hCR.below (by omega) (fun j (h : j = _) => by omega))⟩
  · go_enter Tryz.func16, Tryz.ntmps16
    go_wp2_with fail
    refine cR.out.mono ?_
    generalize ((w.alloc (.cells #[.slice a1 ss.length k1, .slice a2 fs.length k2] 32)).alloc (.cells #[.int .i64 0, .int .i64 0, .int .i64 0, .slice none 0 0, .slice none 0 0, .slice none 0 0, .int .i64 0, .int .i64 0] 43)) = W at *
    rintro x W1 ⟨⟨B1, rfl, T⟩, hb1⟩
    have HBn := hid hb1
    have HB1 := hid (HBW.out.trans (hb1.mono HBW.out.size))
    have hz1 := hb1.size
    have HR1 := hid ((hb1.block (w.heap.size + 1) (by omega)).trans HRW.out)
    have HT := hid T
    clear T hb1 cR
    cases B1 with
    | false =>
      have HFIN := hid (asS_no ss fs r t h4 (fun h => absurd (HT.out.yes h.1) (by decide)))
      have r0 : W1.cell? ⟨w.heap.size + 1, 0, none⟩ = some (.int .i64 0) := by rw [Lib.cell_of_heap HR1.out]; rfl
      have r1 : W1.cell? ⟨w.heap.size + 1, 1, none⟩ = some (.int .i64 0) := by rw [Lib.cell_of_heap HR1.out]; rfl
      have r2 : W1.cell? ⟨w.heap.size + 1, 2, none⟩ = some (.int .i64 0) := by rw [Lib.cell_of_heap HR1.out]; rfl
      have r3 : W1.cell? ⟨w.heap.size + 1, 3, none⟩ = some (.slice none 0 0) := by rw [Lib.cell_of_heap HR1.out]; rfl
      have r4 : W1.cell? ⟨w.heap.size + 1, 4, none⟩ = some (.slice none 0 0) := by rw [Lib.cell_of_heap HR1.out]; rfl
      have r5 : W1.cell? ⟨w.heap.size + 1, 5, none⟩ = some (.slice none 0 0) := by rw [Lib.cell_of_heap HR1.out]; rfl
      have r6 : W1.cell? ⟨w.heap.size + 1, 6, none⟩ = some (.int .i64 0) := by rw [Lib.cell_of_heap HR1.out]; rfl
      have r7 : W1.cell? ⟨w.heap.size + 1, 7, none⟩ = some (.int .i64 0) := by rw [Lib.cell_of_heap HR1.out]; rfl
      have rf := Lib.frozen_of_heap HR1.out
      go_wp2_with fail
      have hCR : Chg (fun j => j = w.heap.size + 1) W1 ((((((((W1.setCell ⟨w.heap.size + 1, 0, none⟩ (.int .i64 0)).setCell ⟨w.heap.size + 1, 1, none⟩ (.int .i64 0)).setCell ⟨w.heap.size + 1, 2, none⟩ (.int .i64 0)).setCell ⟨w.heap.size + 1, 3, none⟩ (.slice none 0 0)).setCell ⟨w.heap.size + 1, 4, none⟩ (.slice none 0 0)).setCell ⟨w.heap.size + 1, 5, none⟩ (.slice none 0 0)).setCell ⟨w.heap.size + 1, 6, none⟩ (.int .i64 0)).setCell ⟨w.heap.size + 1, 7, none⟩ (.int .i64 1)) := (((((((chg_set _ _ _ _).trans (chg_set _ _ _ _)).trans (chg_set _ _ _ _)).trans (chg_set _ _ _ _)).trans (chg_set _ _ _ _)).trans (chg_set _ _ _ _)).trans (chg_set _ _ _ _)).trans (chg_set _ _ _ _)
      refine bodyPost_ret (v := outV 1 z0 (.slice none 0 0) (.slice none 0 0) (.slice none 0 0)) (by simp [results, Tryz.results16, go_sem, outV, z0, r0, r1, r2, r3, r4, r5, r6, r7]) rfl ?_
      show StepPost _ _ (asS ss fs es r t).1 (asS ss fs es r t).2 _ _
      rw [HFIN.out]
      exact ⟨_, _, _, rfl, StOwn.none _ _, HB1.out.trans (hCR.below (by omega) (fun j (h : j = _) => by omega))⟩
    | true =>
      have HY := hid (show HistP ss fs es from HT.out.1 rfl)
      have cN := hid (l02Time_any t W1)
      cases htb : timB t with
      | false =>
        have HFIN := hid (asS_no ss fs r t h4 (fun h => by rw [htb] at h; cases h.2))
        rw [htb] at cN
        clear htb
        go_wp2_with fail
        refine cN.out.mono ?_
        rintro x Wq ⟨rfl, hq⟩
        rw [hq]
        clear hq
        have r0 : W1.cell? ⟨w.heap.size + 1, 0, none⟩ = some (.int .i64 0) := by rw [Lib.cell_of_heap HR1.out]; rfl
        have r1 : W1.cell? ⟨w.heap.size + 1, 1, none⟩ = some (.int .i64 0) := by rw [Lib.cell_of_heap HR1.out]; rfl
        have r2 : W1.cell? ⟨w.heap.size + 1, 2, none⟩ = some (.int .i64 0) := by rw [Lib.cell_of_heap HR1.out]; rfl
        have r3 : W1.cell? ⟨w.heap.size + 1, 3, none⟩ = some (.slice none 0 0) := by rw [Lib.cell_of_heap HR1.out]; rfl
        have r4 : W1.cell? ⟨w.heap.size + 1, 4, none⟩ = some (.slice none 0 0) := by rw [Lib.cell_of_heap HR1.out]; rfl
        have r5 : W1.cell? ⟨w.heap.size + 1, 5, none⟩ = some (.slice none 0 0) := by rw [Lib.cell_of_heap HR1.out]; rfl
        have r6 : W1.cell? ⟨w.heap.size + 1, 6, none⟩ = some (.int .i64 0) := by rw [Lib.cell_of_heap HR1.out]; rfl
        have r7 : W1.cell? ⟨w.heap.size + 1, 7, none⟩ = some (.int .i64 0) := by rw [Lib.cell_of_heap HR1.out]; rfl
        have rf := Lib.frozen_of_heap HR1.out
        go_wp2_with fail
        have hCR : Chg (fun j => j = w.heap.size + 1) W1 ((((((((W1.setCell ⟨w.heap.size + 1, 0, none⟩ (.int .i64 0)).setCell ⟨w.heap.size + 1, 1, none⟩ (.int .i64 0)).setCell ⟨w.heap.size + 1, 2, none⟩ (.int .i64 0)).setCell ⟨w.heap.size + 1, 3, none⟩ (.slice none 0 0)).setCell ⟨w.heap.size + 1, 4, none⟩ (.slice none 0 0)).setCell ⟨w.heap.size + 1, 5, none⟩ (.slice none 0 0)).setCell ⟨w.heap.size + 1, 6, none⟩ (.int .i64 0)).setCell ⟨w.heap.size + 1, 7, none⟩ (.int .i64 1)) := (((((((chg_set _ _ _ _).trans (chg_set _ _ _ _)).trans (chg_set _ _ _ _)).trans (chg_set _ _ _ _)).trans (chg_set _ _ _ _)).trans (chg_set _ _ _ _)).trans (chg_set _ _ _ _)).trans (chg_set _ _ _ _)
        refine bodyPost_ret (v := outV 1 z0 (.slice none 0 0) (.slice none 0 0) (.slice none 0 0)) (by simp [results, Tryz.results16, go_sem, outV, z0, r0, r1, r2, r3, r4, r5, r6, r7]) rfl ?_
        show StepPost _ _ (asS ss fs es r t).1 (asS ss fs es r t).2 _ _
        rw [HFIN.out]
        exact ⟨_, _, _, rfl, StOwn.none _ _, HB1.out.trans (hCR.below (by omega) (fun j (h : j = _) => by omega))⟩
      | true =>
        have HTB := hid htb
        rw [htb] at cN
        clear htb
        go_wp2_with fail
        refine cN.out.mono ?_
        rintro x Wq ⟨rfl, hq⟩
        rw [hq]
        clear hq
        clear cN
        have h2 := HY.out.n
        have hle := ofRun_len es r
        have cA := hid (l04Run_any a6 k6 es r W1 (HEW.out.stay HBn.out (Nat.le_refl _)) (by omega))
        go_wp2_with fail
        refine cA.out.mono ?_
        rintro x W3 ⟨v, rfl, ho3, hb3⟩
        have HB3 := hid (HBn.out.trans (hb3.mono hz1))
        have hz2 := hb3.size
        have hz3 := hb3.size
        have HOW := hid ho3
        have HBF := hid (HBW.out.trans (HB3.out.mono (by omega)))
        have HR3 := hid ((HB3.out.block (w.heap.size + 1) (by omega)).trans HRW.out)
        have HX3 := hid ((HB3.out.block w.heap.size (by omega)).trans HXW.out)
        obtain ⟨va, vc, rfl⟩ := ownB_form ho3
        clear ho3 hb3 cA
        by_cases h0 : (ofRun es r).length = 0
        · have HFIN := hid (asS_none ss fs r t h4 HY.out HTB.out h0)
          rw [h0] at *
          have r0 : W3.cell? ⟨w.heap.size + 1, 0, none⟩ = some (.int .i64 0) := by rw [Lib.cell_of_heap HR3.out]; rfl
          have r1 : W3.cell? ⟨w.heap.size + 1, 1, none⟩ = some (.int .i64 0) := by rw [Lib.cell_of_heap HR3.out]; rfl
          have r2 : W3.cell? ⟨w.heap.size + 1, 2, none⟩ = some (.int .i64 0) := by rw [Lib.cell_of_heap HR3.out]; rfl
          have r3 : W3.cell? ⟨w.heap.size + 1, 3, none⟩ = some (.slice none 0 0) := by rw [Lib.cell_of_heap HR3.out]; rfl
          have r4 : W3.cell? ⟨w.heap.size + 1, 4, none⟩ = some (.slice none 0 0) := by rw [Lib.cell_of_heap HR3.out]; rfl
          have r5 : W3.cell? ⟨w.heap.size + 1, 5, none⟩ = some (.slice none 0 0) := by rw [Lib.cell_of_heap HR3.out]; rfl
          have r6 : W3.cell? ⟨w.heap.size + 1, 6, none⟩ = some (.int .i64 0) := by rw [Lib.cell_of_heap HR3.out]; rfl
          have r7 : W3.cell? ⟨w.heap.size + 1, 7, none⟩ = some (.int .i64 0) := by rw [Lib.cell_of_heap HR3.out]; rfl
          have rf := Lib.frozen_of_heap HR3.out
          go_wp2_with fail
          have hCR : Chg (fun j => j = w.heap.size + 1) W3 ((((((((W3.setCell ⟨w.heap.size + 1, 0, none⟩ (.int .i64 0)).setCell ⟨w.heap.size + 1, 1, none⟩ (.int .i64 0)).setCell ⟨w.heap.size + 1, 2, none⟩ (.int .i64 0)).setCell ⟨w.heap.size + 1, 3, none⟩ (.slice none 0 0)).setCell ⟨w.heap.size + 1, 4, none⟩ (.slice none 0 0)).setCell ⟨w.heap.size + 1, 5, none⟩ (.slice none 0 0)).setCell ⟨w.heap.size + 1, 6, none⟩ (.int .i64 0)).setCell ⟨w.heap.size + 1, 7, none⟩ (.int .i64 6)) := (((((((chg_set _ _ _ _).trans (chg_set _ _ _ _)).trans (chg_set _ _ _ _)).trans (chg_set _ _ _ _)).trans (chg_set _ _ _ _)).trans (chg_set _ _ _ _)).trans (chg_set _ _ _ _)).trans (chg_set _ _ _ _)
          refine bodyPost_ret (v := outV 6 z0 (.slice none 0 0) (.slice none 0 0) (.slice none 0 0)) (by simp [results, Tryz.results16, go_sem, outV, z0, r0, r1, r2, r3, r4, r5, r6, r7]) rfl ?_
          show StepPost _ _ (asS ss fs es r t).1 (asS ss fs es r t).2 _ _
          rw [HFIN.out]
          exact ⟨_, _, _, rfl, StOwn.none _ _, HBF.out.trans (hCR.below (by omega) (fun j (h : j = _) => by omega))⟩
        · have HFIN := hid (asS_yes ss fs r t h4 HY.out HTB.out h0)
          have hne : ((((ofRun es r).length : Nat) : Int) == 0) = false := by simpa using h0
          have hrow : ∃ g, va = some ⟨g, 0, none⟩ ∧ EvsAt W3 g 0 (ofRun es r) ∧ (ofRun es r).length ≤ vc := by
            rcases HOW.out.2 with ⟨e, _⟩ | ⟨g, cap, cur, e, _, hh, hnc, _⟩
            · injection e with _ e _; exact absurd e h0
            · injection e with e1 _ e3
              subst e1 e3
              exact ⟨g, rfl, ⟨lt_heap hh, fun i hi => at_of_cells (HOW.out.cells rfl) i hi⟩, hnc⟩
          obtain ⟨g, rfl, hQ, hvc⟩ := hrow
          have HQ := hid hQ
          clear hQ
          have x0 : W3.cell? ⟨w.heap.size, 0, none⟩ = some (.slice a1 ss.length k1) := by rw [Lib.cell_of_heap HX3.out]; rfl
          have x1 : W3.cell? ⟨w.heap.size, 1, none⟩ = some (.slice a2 fs.length k2) := by rw [Lib.cell_of_heap HX3.out]; rfl
          have lx : w.heap.size < W3.heap.size := lt_heap HX3.out
          have lr : w.heap.size + 1 < W3.heap.size := lt_heap HR3.out
          have cC := hid (fun (X : World) (a : Option Addr) (c : Nat) (hX : Below W3.heap.size W3 X) (hS : EvSl X (.slice a (upT (ofRun es r) t).length c) (upT (ofRun es r) t)) => l03Of_any a1 a2 a k1 k2 c ss fs (upT (ofRun es r) t) X (HDW.out.stay (HB3.out.trans (hX.mono (by omega)))) hS HY.out.d (upT_mem (p := fun e => e.step.size ≤ maxLen) (ofRun_step es r (p := fun e => e.step.size ≤ maxLen) (fun i hi => (HFE.out i hi).1))) (by have := upT_len (ofRun es r) t; omega))
          generalize hst : ofS ss fs (upT (ofRun es r) t) z0 = cs at *
          clear hst
          obtain ⟨c, S'⟩ := cs
          go_wp2_with fail
          go_loop [10] (fun i => ∃ k : Nat, k ≤ (ofRun es r).length ∧ i = .int .i64 k ∧ ∀ j, j < k → (h : j < (ofRun es r).length) → (ofRun es r)[j].time ≤ t) (fun i => (ofRun es r).length - (intOf i).toNat)
          case atStart => exact ⟨0, Nat.zero_le _, rfl, fun j hj => absurd hj (by omega)⟩
          case round =>
            obtain ⟨k, hk, rfl, hall⟩ := hrel
            have HA := hid hall
            clear hall
            have q1 : (0 : Int) ≤ (k : Int) := by omega
            have q2 : (k : Int) ≤ (vc : Int) := by omega
            by_cases hlt : k < (ofRun es r).length
            · have c1 := (HQ.out.2 k hlt).c1
              rw [Nat.zero_add] at c1
              have HST := hid (fun (h : (ofRun es r)[k].time ≤ t) => show ∀ j, j < k + 1 → (h : j < (ofRun es r).length) → (ofRun es r)[j].time ≤ t from fun j hj h' => by
              by_cases e : j = k
              · subst e; exact h
              · exact HA.out j (by omega) h')
              have HEN := hid (fun (h : ¬ (ofRun es r)[k].time ≤ t) => upT_is HA.out (fun _ => h))
              generalize (ofRun es r)[k].time = y at *
              by_cases hy : y ≤ t
              · go_wp2
                go_round
                case rel => exact ⟨k + 1, by omega, by go_num, HST.out hy⟩
                case measure => simp [intOf]; omega
              · have HU := hid (HEN.out hy)
                have hbD : Below W3.heap.size W3 W3.drew := (Below.refl _ _).drew
                have hSL := evsl_take (c := vc) k vc (HQ.out.stay hbD (Nat.le_refl _)) hk rfl
                have hlk : (upT (ofRun es r) t).length = k := by rw [HU.out]; simp; omega
                rw [← HU.out] at hSL
                rw [hlk] at hSL cC
                clear hbD hlk
                have hzd : W3.drew.heap.size = W3.heap.size := rfl
                have hbR : Below W3.heap.size W3 W3.drew := (Below.refl _ _).drew
                have nx : ¬ w.heap.size = w.heap.size + 1 := by omega
                have nx2 : ¬ w.heap.size + 1 = w.heap.size := by omega
                go_wp2_with fail
                go_region_held3 (fun w' => w'.cell? ⟨w.heap.size, 0, none⟩ = some (.slice a1 ss.length k1) ∧ w'.cell? ⟨w.heap.size, 1, none⟩ = some (.slice a2 fs.length k2)) (go_keep) (first | (go_at_call 55; refine (cC.out _ _ _ hbR hSL).mono ?_; rintro x V9 ⟨u3, u4, u5, rfl, hO9, hq9⟩; obtain ⟨x3a, x4a, x5a, x3c, x4c, x5c, rfl, rfl, rfl⟩ := hO9.forms; unfold outV; have hb9 := hbR.trans (hq9.mono hbR.size); have v90 := (hb9.cell (p := ⟨w.heap.size, 0, none⟩) lx).trans x0; have v91 := (hb9.cell (p := ⟨w.heap.size, 1, none⟩) lx).trans x1; have HR9 := (hb9.block (w.heap.size + 1) lr).trans HR3.out; have s0 : V9.cell? ⟨w.heap.size + 1, 0, none⟩ = some (.int .i64 0) := (by rw [Lib.cell_of_heap HR9]; rfl); have s1 : V9.cell? ⟨w.heap.size + 1, 1, none⟩ = some (.int .i64 0) := (by rw [Lib.cell_of_heap HR9]; rfl); have s2 : V9.cell? ⟨w.heap.size + 1, 2, none⟩ = some (.int .i64 0) := (by rw [Lib.cell_of_heap HR9]; rfl); have s3 : V9.cell? ⟨w.heap.size + 1, 3, none⟩ = some (.slice none 0 0) := (by rw [Lib.cell_of_heap HR9]; rfl); have s4 : V9.cell? ⟨w.heap.size + 1, 4, none⟩ = some (.slice none 0 0) := (by rw [Lib.cell_of_heap HR9]; rfl); have s5 : V9.cell? ⟨w.heap.size + 1, 5, none⟩ = some (.slice none 0 0) := (by rw [Lib.cell_of_heap HR9]; rfl); have s6 : V9.cell? ⟨w.heap.size + 1, 6, none⟩ = some (.int .i64 0) := (by rw [Lib.cell_of_heap HR9]; rfl); have s7 : V9.cell? ⟨w.heap.size + 1, 7, none⟩ = some (.int .i64 0) := (by rw [Lib.cell_of_heap HR9]; rfl); have sf := Lib.frozen_of_heap HR9))
                have HO9 := hid hO9
                have HB9 := hid hb9
                have HR9' := hid HR9
                clear hO9 hb9 HR9 x0 x1
                have hCR : Chg (fun j => j = w.heap.size + 1) V9 ((((((((V9.setCell ⟨w.heap.size + 1, 0, none⟩ (.int .i64 S'.status)).setCell ⟨w.heap.size + 1, 1, none⟩ (.int .i64 S'.begun)).setCell ⟨w.heap.size + 1, 2, none⟩ (.int .i64 S'.last)).setCell ⟨w.heap.size + 1, 3, none⟩ (.slice x3a S'.wait.length x3c)).setCell ⟨w.heap.size + 1, 4, none⟩ (.slice x4a S'.busy.length x4c)).setCell ⟨w.heap.size + 1, 5, none⟩ (.slice x5a S'.vars.length x5c)).setCell ⟨w.heap.size + 1, 6, none⟩ (.int .i64 S'.faults)).setCell ⟨w.heap.size + 1, 7, none⟩ (.int .i64 c)) := (((((((chg_set _ _ _ _).trans (chg_set _ _ _ _)).trans (chg_set _ _ _ _)).trans (chg_set _ _ _ _)).trans (chg_set _ _ _ _)).trans (chg_set _ _ _ _)).trans (chg_set _ _ _ _)).trans (chg_set _ _ _ _)
                go_wp2_with fail
                refine bodyPost_ret (v := outV c S' (.slice x3a S'.wait.length x3c) (.slice x4a S'.busy.length x4c) (.slice x5a S'.vars.length x5c)) (by simp [results, Tryz.results16, go_sem, outV, s0, s1, s2, s3, s4, s5, s6, s7]) rfl ?_
                show StepPost _ _ (asS ss fs es r t).1 (asS ss fs es r t).2 _ _
                rw [HFIN.out]
                exact ⟨_, _, _, rfl, (HO9.out.turn hCR HR9'.out (by decide) (by decide)).le (by omega), HBF.out.trans ((HB9.out.mono (by omega)).trans (hCR.below (by have := HB9.out.size; omega) (fun j (h : j = _) => by omega)))⟩
            · have HU := hid (upT_is HA.out (fun h => absurd h hlt))
              have hbD : Below W3.heap.size W3 W3.drew := (Below.refl _ _).drew
              have hSL := evsl_take (c := vc) k vc (HQ.out.stay hbD (Nat.le_refl _)) hk rfl
              have hlk : (upT (ofRun es r) t).length = k := by rw [HU.out]; simp; omega
              rw [← HU.out] at hSL
              rw [hlk] at hSL cC
              clear hbD hlk
              have hzd : W3.drew.heap.size = W3.heap.size := rfl
              have hbR : Below W3.heap.size W3 W3.drew := (Below.refl _ _).drew
              have nx : ¬ w.heap.size = w.heap.size + 1 := by omega
              have nx2 : ¬ w.heap.size + 1 = w.heap.size := by omega
              go_wp2_with fail
              go_region_held3 (fun w' => w'.cell? ⟨w.heap.size, 0, none⟩ = some (.slice a1 ss.length k1) ∧ w'.cell? ⟨w.heap.size, 1, none⟩ = some (.slice a2 fs.length k2)) (go_keep) (first | (go_at_call 55; refine (cC.out _ _ _ hbR hSL).mono ?_; rintro x V9 ⟨u3, u4, u5, rfl, hO9, hq9⟩; obtain ⟨x3a, x4a, x5a, x3c, x4c, x5c, rfl, rfl, rfl⟩ := hO9.forms; unfold outV; have hb9 := hbR.trans (hq9.mono hbR.size); have v90 := (hb9.cell (p := ⟨w.heap.size, 0, none⟩) lx).trans x0; have v91 := (hb9.cell (p := ⟨w.heap.size, 1, none⟩) lx).trans x1; have HR9 := (hb9.block (w.heap.size + 1) lr).trans HR3.out; have s0 : V9.cell? ⟨w.heap.size + 1, 0, none⟩ = some (.int .i64 0) := (by rw [Lib.cell_of_heap HR9]; rfl); have s1 : V9.cell? ⟨w.heap.size + 1, 1, none⟩ = some (.int .i64 0) := (by rw [Lib.cell_of_heap HR9]; rfl); have s2 : V9.cell? ⟨w.heap.size + 1, 2, none⟩ = some (.int .i64 0) := (by rw [Lib.cell_of_heap HR9]; rfl); have s3 : V9.cell? ⟨w.heap.size + 1, 3, none⟩ = some (.slice none 0 0) := (by rw [Lib.cell_of_heap HR9]; rfl); have s4 : V9.cell? ⟨w.heap.size + 1, 4, none⟩ = some (.slice none 0 0) := (by rw [Lib.cell_of_heap HR9]; rfl); have s5 : V9.cell? ⟨w.heap.size + 1, 5, none⟩ = some (.slice none 0 0) := (by rw [Lib.cell_of_heap HR9]; rfl); have s6 : V9.cell? ⟨w.heap.size + 1, 6, none⟩ = some (.int .i64 0) := (by rw [Lib.cell_of_heap HR9]; rfl); have s7 : V9.cell? ⟨w.heap.size + 1, 7, none⟩ = some (.int .i64 0) := (by rw [Lib.cell_of_heap HR9]; rfl); have sf := Lib.frozen_of_heap HR9))
              have HO9 := hid hO9
              have HB9 := hid hb9
              have HR9' := hid HR9
              clear hO9 hb9 HR9 x0 x1
              have hCR : Chg (fun j => j = w.heap.size + 1) V9 ((((((((V9.setCell ⟨w.heap.size + 1, 0, none⟩ (.int .i64 S'.status)).setCell ⟨w.heap.size + 1, 1, none⟩ (.int .i64 S'.begun)).setCell ⟨w.heap.size + 1, 2, none⟩ (.int .i64 S'.last)).setCell ⟨w.heap.size + 1, 3, none⟩ (.slice x3a S'.wait.length x3c)).setCell ⟨w.heap.size + 1, 4, none⟩ (.slice x4a S'.busy.length x4c)).setCell ⟨w.heap.size + 1, 5, none⟩ (.slice x5a S'.vars.length x5c)).setCell ⟨w.heap.size + 1, 6, none⟩ (.int .i64 S'.faults)).setCell ⟨w.heap.size + 1, 7, none⟩ (.int .i64 c)) := (((((((chg_set _ _ _ _).trans (chg_set _ _ _ _)).trans (chg_set _ _ _ _)).trans (chg_set _ _ _ _)).trans (chg_set _ _ _ _)).trans (chg_set _ _ _ _)).trans (chg_set _ _ _ _)).trans (chg_set _ _ _ _)
              go_wp2_with fail
              refine bodyPost_ret (v := outV c S' (.slice x3a S'.wait.length x3c) (.slice x4a S'.busy.length x4c) (.slice x5a S'.vars.length x5c)) (by simp [results, Tryz.results16, go_sem, outV, s0, s1, s2, s3, s4, s5, s6, s7]) rfl ?_
              show StepPost _ _ (asS ss fs es r t).1 (asS ss fs es r t).2 _ _
              rw [HFIN.out]
              exact ⟨_, _, _, rfl, (HO9.out.turn hCR HR9'.out (by decide) (by decide)).le (by omega), HBF.out.trans ((HB9.out.mono (by omega)).trans (hCR.below (by have := HB9.out.size; omega) (fun j (h : j = _) => by omega)))⟩
end Go.Proofs.YtadidjhcgmeadaaGreatDoor
