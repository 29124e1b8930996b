/-
  The law FnExactHistoryRight, walked: it answers true.
-/
import Derived.Test.YtadidjhcgmeadaaGreatDoorZImHist
import Derived.Test.YtadidjhcgmeadaaGreatDoorZSpHist
import Derived.Test.YtadidjhcgmeadaaGreatDoorZFlLaw5
import Derived.Test.YtadidjhcgmeadaaGreatDoorZEvTo2
import Derived.Deep.RegionHeld3
namespace Go.Proofs.YtadidjhcgmeadaaGreatDoor
open Go.RowKit Go.Sort

set_option maxRecDepth 100000 in
set_option maxHeartbeats 4000000 in
theorem fnExactHistoryRight_walk (a1 a2 a6 : Option Addr) (k1 k2 k6 : Nat) (ss : List ByteArray) (fs : List Pr) (es : List Ev) (e0 e1 e2 e3 e4 : Addr) (w : World) (hD : DefSl w a1 a2 k1 k2 ss fs) (hE : EvSl w (.slice a6 es.length k6) es) (F1 : FitS ss) (F2 : FitP fs) (FE : Fit es) (n1 : ss.length ≤ maxLen) (n2 : fs.length ≤ maxLen) (n6 : es.length ≤ maxLen) (hEr : ErrsAt w e0 e1 e2 e3 e4) :
    Calls Tryz.prog 3 #[defV a1 a2 k1 k2 ss fs, .slice a6 es.length k6] w fun x w' => x = .returned (.bool true) ∧ Below w.heap.size w w' := by
  have hb0 : Below w.heap.size w (w.alloc (.cells #[.slice a1 ss.length k1, .slice a2 fs.length k2] 25)) := (Below.refl _ _).alloc (Nat.le_refl _) _
  have hs0 : (w.alloc (.cells #[.slice a1 ss.length k1, .slice a2 fs.length k2] 25)).heap.size = w.heap.size + 1 := by simp
  have HX := hid (heap_alloc_new w (.cells #[.slice a1 ss.length k1, .slice a2 fs.length k2] 25))
  have HB0 := hid hb0
  have HD := hid hD
  have HV := hid hE
  have HE := hid hEr
  have HF := hid FE
  have cz1 := hid (szDef_any a1 a2 k1 k2 ss fs 1048576 (w.alloc (.cells #[.slice a1 ss.length k1, .slice a2 fs.length k2] 25)) (hD.h1.stay hb0 (Nat.le_refl _)) (hD.h2.stay hb0 (Nat.le_refl _)) F1 F2 (by decide) (by decide) n1 n2)
  have cSp := hid (fun (p1 p2 p6 : Option Addr) (q1 q2 q6 : Nat) V hD hE => specHistoryRight_any p1 p2 p6 q1 q2 q6 ss fs es V hD hE F1 FE n1 n2 n6)
  have cIm := hid (fun (p1 p2 p6 : Option Addr) (q1 q2 q6 : Nat) V hD hE hR => implHistoryRight_any p1 p2 p6 q1 q2 q6 ss fs es V hD hE F1 F2 (fun i h => (FE i h).1) n1 n2 n6 e0 e1 e2 e3 e4 hR)
  have HN6 := hid n6
  clear hD hE hEr hb0 F1 F2 FE n1 n2 n6
  go_enter Tryz.func3, Tryz.ntmps3
  go_wp2_with fail
  refine cz1.out.mono ?_
  generalize (w.alloc (.cells #[.slice a1 ss.length k1, .slice a2 fs.length k2] 25)) = V0 at *
  rintro x V1 ⟨r1, rfl, hr1, hb1⟩
  have HC1 := hid hb1
  have HB1 := hid (HB0.out.trans (hb1.mono HB0.out.size))
  have hz1 := hb1.size
  clear hb1 cz1
  rcases hr1 with rfl | ⟨r10, r11, m1, m2⟩
  · go_wp2_with fail
    go_ret
    exact ⟨rfl, HB1.out⟩
  have cz2 := hid (szEventS_all (.slice a6 es.length k6) es r1 V1 (HV.out.stay HB1.out (Nat.le_refl _)) HF.out r10 (by omega) HN6.out)
  have hr2 := szR_two es r10
  generalize szR r1 es = r2 at *
  go_wp2_with fail
  refine cz2.out.mono ?_
  rintro x V2 ⟨rfl, hb2⟩
  have HC2 := hid (HC1.out.trans (hb2.mono HC1.out.size))
  have HB2 := hid (HB1.out.trans (hb2.mono HB1.out.size))
  have hz2 := hb2.size
  clear hb2 cz2
  rcases hr2 with rfl | ⟨r20, m6'⟩
  · go_wp2_with fail
    go_ret
    exact ⟨rfl, HB2.out⟩
  have m6 : es.length ≤ 1048576 := by omega
  clear m6'
  have hX2 := (HC2.out.block _ (lt_heap HX.out)).trans HX.out
  have ca0 : V2.cell? ⟨w.heap.size, 0, none⟩ = some (.slice a1 ss.length k1) := by rw [Lib.cell_of_heap hX2]; rfl
  have ca1 : V2.cell? ⟨w.heap.size, 1, none⟩ = some (.slice a2 fs.length k2) := by rw [Lib.cell_of_heap hX2]; rfl
  go_wp2_with fail
  refine (toDef_own a1 a2 k1 k2 ss fs _ (HD.out.stay HB2.out) m1 m2).mono ?_
  rintro x V3 ⟨p1, p2, q1, q2, rfl, hO3, hb3⟩
  clear ca0 ca1 hX2
  have HC3 := hid (HC2.out.trans (hb3.mono HC2.out.size))
  have HB3 := hid (HB2.out.trans (hb3.mono HB2.out.size))
  have hz3 := hb3.size
  clear hb3
  go_wp2_with fail
  refine (toEventS_any (.slice a6 es.length k6) es _ (HV.out.stay HB3.out (Nat.le_refl _)) m6).mono ?_
  rintro x V4 ⟨vv, rfl, hu4, hb4⟩
  obtain ⟨p6, q6, rfl⟩ := ownB_form hu4
  have HC4 := hid (HC3.out.trans (hb4.mono HC3.out.size))
  have HB4 := hid (HB3.out.trans (hb4.mono HB3.out.size))
  have hz4 := hb4.size
  have cc := hid (cSp.out p1 p2 p6 q1 q2 q6 V4 (hO3.stay hb4).sl (sl_of_own hu4))
  clear hb4 hO3 hu4 cSp
  go_wp2_with fail
  refine cc.out.mono ?_
  rintro x V5 ⟨⟨B, rfl, hB⟩, hb5⟩
  have TB := hid hB
  have HC5 := hid (HC4.out.trans (hb5.mono HC4.out.size))
  have HB5 := hid (HB4.out.trans (hb5.mono HB4.out.size))
  have hz5 := hb5.size
  clear hb5 cc hB
  have hX5 := (HC5.out.block _ (lt_heap HX.out)).trans HX.out
  have ca0 : V5.cell? ⟨w.heap.size, 0, none⟩ = some (.slice a1 ss.length k1) := by rw [Lib.cell_of_heap hX5]; rfl
  have ca1 : V5.cell? ⟨w.heap.size, 1, none⟩ = some (.slice a2 fs.length k2) := by rw [Lib.cell_of_heap hX5]; rfl
  go_wp2_with fail
  refine (toDef_own a1 a2 k1 k2 ss fs _ (HD.out.stay HB5.out) m1 m2).mono ?_
  rintro x V6 ⟨d1, d2, f1, f2, rfl, hO6, hb6⟩
  clear ca0 ca1 hX5
  have HC6 := hid (HC5.out.trans (hb6.mono HC5.out.size))
  have HB6 := hid (HB5.out.trans (hb6.mono HB5.out.size))
  have hz6 := hb6.size
  have hb7 : Below V6.heap.size V6 (V6.alloc (.cells #[.slice d1 ss.length f1, .slice d2 fs.length f2] 32)) := (Below.refl _ _).alloc (Nat.le_refl _) _
  have HX7 := hid (heap_alloc_new V6 (.cells #[.slice d1 ss.length f1, .slice d2 fs.length f2] 32))
  have hs7 : (V6.alloc (.cells #[.slice d1 ss.length f1, .slice d2 fs.length f2] 32)).heap.size = V6.heap.size + 1 := by simp
  have HO7 := hid (hO6.stay hb7)
  have HC7 := hid (HC6.out.trans (hb7.mono HC6.out.size))
  have HB7 := hid (HB6.out.trans (hb7.mono HB6.out.size))
  clear hb6 hb7 hO6
  go_upto_region 10 with fail
  generalize (V6.alloc (.cells #[.slice d1 ss.length f1, .slice d2 fs.length f2] 32)) = V7 at *
  go_wp2_with fail
  refine (toEventS_any (.slice a6 es.length k6) es _ (HV.out.stay HB7.out (Nat.le_refl _)) m6).mono ?_
  rintro x V8 ⟨vv, rfl, hu8, hb8⟩
  obtain ⟨d6, f6, rfl⟩ := ownB_form hu8
  have HO8 := hid (HO7.out.stay hb8)
  have HU8 := hid hu8
  have HX8 := hid ((hb8.block _ (lt_heap HX7.out)).trans HX7.out)
  have HC8 := hid (HC7.out.trans (hb8.mono HC7.out.size))
  have HB8 := hid (HB7.out.trans (hb8.mono HB7.out.size))
  have hz8 := hb8.size
  have cc := hid (cIm.out d1 d2 d6 f1 f2 f6 V8 HO8.out.sl (sl_of_own HU8.out) (HE.out.stay HB8.out))
  have x0 : V8.cell? ⟨V6.heap.size, 0, none⟩ = some (.slice d1 ss.length f1) := by rw [Lib.cell_of_heap HX8.out]; rfl
  have x1 : V8.cell? ⟨V6.heap.size, 1, none⟩ = some (.slice d2 fs.length f2) := by rw [Lib.cell_of_heap HX8.out]; rfl
  clear hb8 hu8 cIm
  go_wp2_with fail
  refine cc.out.mono ?_
  rintro x V9 ⟨⟨B', rfl, hB'⟩, hb9⟩
  obtain rfl : B' = B := hB'.same TB.out
  have HO9 := hid (HO8.out.stay hb9)
  have HU9 := hid (ownB_stay HU8.out hb9)
  have HX9 := hid ((hb9.block _ (lt_heap HX8.out)).trans HX8.out)
  have HC9 := hid (HC8.out.trans (hb9.mono HC8.out.size))
  have HB9 := hid (HB8.out.trans (hb9.mono HB8.out.size))
  have hz9 := hb9.size
  clear hb9 cc hB' x0 x1 TB
  have hXw := (HC9.out.block _ (lt_heap HX.out)).trans HX.out
  have ca0 : V9.cell? ⟨w.heap.size, 0, none⟩ = some (.slice a1 ss.length k1) := by rw [Lib.cell_of_heap hXw]; rfl
  have ca1 : V9.cell? ⟨w.heap.size, 1, none⟩ = some (.slice a2 fs.length k2) := by rw [Lib.cell_of_heap hXw]; rfl
  have cd0 : V9.cell? ⟨V6.heap.size, 0, none⟩ = some (.slice d1 ss.length f1) := by rw [Lib.cell_of_heap HX9.out]; rfl
  have cd1 : V9.cell? ⟨V6.heap.size, 1, none⟩ = some (.slice d2 fs.length f2) := by rw [Lib.cell_of_heap HX9.out]; rfl
  have hlA : w.heap.size < V9.heap.size := lt_heap hXw
  have hlB : V6.heap.size < V9.heap.size := lt_heap HX9.out
  have hbR : Below V9.heap.size V9 V9.drew := (Below.refl _ _).drew
  clear hXw
  go_wp2_with fail
  go_region_held3 (fun w' => w'.cell? ⟨w.heap.size, 0, none⟩ = some (.slice a1 ss.length k1) ∧ w'.cell? ⟨w.heap.size, 1, none⟩ = some (.slice a2 fs.length k2) ∧ w'.cell? ⟨V6.heap.size, 0, none⟩ = some (.slice d1 ss.length f1) ∧ w'.cell? ⟨V6.heap.size, 1, none⟩ = some (.slice d2 fs.length f2) ∧ Below V9.heap.size V9 w') (go_keep) (first
    | (go_at_call 11; refine (toDef_own a1 a2 k1 k2 ss fs _ ((HD.out.stay HB9.out).stay hbR) m1 m2).mono ?_; rintro x V16 ⟨i1, i2, j1, j2, rfl, hD16, hq16⟩; have hb16 := hbR.trans (hq16.mono hbR.size); have ka0_16 := (hb16.cell (p := ⟨w.heap.size, 0, none⟩) hlA).trans ca0; have ka1_16 := (hb16.cell (p := ⟨w.heap.size, 1, none⟩) hlA).trans ca1; have kb0_16 := (hb16.cell (p := ⟨V6.heap.size, 0, none⟩) hlB).trans cd0; have kb1_16 := (hb16.cell (p := ⟨V6.heap.size, 1, none⟩) hlB).trans cd1)
    | (go_at_call 14; refine (eqDef_same d1 d2 i1 i2 f1 f2 j1 j2 ss fs _ (HO9.out.stay hb16).sl.h1 (HO9.out.stay hb16).sl.h2 hD16.sl.h1 hD16.sl.h2 (Nat.le_trans m1 (by decide)) (Nat.le_trans m2 (by decide))).mono ?_; rintro x V17 ⟨rfl, hq17⟩; have hb17 := hb16.trans (hq17.mono hb16.size); have ka0_17 := (hb17.cell (p := ⟨w.heap.size, 0, none⟩) hlA).trans ca0; have ka1_17 := (hb17.cell (p := ⟨w.heap.size, 1, none⟩) hlA).trans ca1; have kb0_17 := (hb17.cell (p := ⟨V6.heap.size, 0, none⟩) hlB).trans cd0; have kb1_17 := (hb17.cell (p := ⟨V6.heap.size, 1, none⟩) hlB).trans cd1))
  have HB17 := hid (HB9.out.trans (hb17.mono HB9.out.size))
  have HU17 := hid (ownB_stay HU9.out hb17)
  clear hb16 hb17 hq16 hq17 ka0_16 ka1_16 kb0_16 kb1_16 ka0_17 ka1_17 kb0_17 kb1_17 hD16
  go_wp2_with fail
  refine (toEventS_any (.slice a6 es.length k6) es _ (HV.out.stay HB17.out (Nat.le_refl _)) m6).mono ?_
  rintro x V18 ⟨vv, rfl, hu18, hb18⟩
  have HU18 := hid (ownB_stay HU17.out hb18)
  have HB18 := hid (HB17.out.trans (hb18.mono HB17.out.size))
  have cq := hid (eqEventS_any _ _ es V18 (sl_of_own HU18.out) (sl_of_own hu18) HN6.out)
  obtain ⟨t6, s6, rfl⟩ := ownB_form hu18
  clear hu18 hb18
  go_wp2_with fail
  refine cq.out.mono ?_
  rintro x V19 ⟨rfl, hb19⟩
  have HB19 := hid (HB18.out.trans (hb19.mono HB18.out.size))
  clear hb19 cq
  go_wp2_with fail
  go_ret
  exact ⟨rfl, HB19.out⟩
end Go.Proofs.YtadidjhcgmeadaaGreatDoor
