/-
  The law FnExactServiceRight, walked: it answers true.
-/
import Derived.Test.YtadidjhcgmeadaaGreatDoorZSvM3
import Derived.Test.YtadidjhcgmeadaaGreatDoorZSvSz
import Derived.Deep.RegionHeld3
namespace Go.Proofs.YtadidjhcgmeadaaGreatDoor
open Go.RowKit Go.Sort

set_option maxRecDepth 100000 in
set_option maxHeartbeats 4000000 in
theorem fnExactServiceRight_walk (a1 a2 a6 : Option Addr) (k1 k2 k6 : Nat) (ss : List ByteArray) (fs : List Pr) (es : List Ev) (nx : Int) (e0 e1 e2 e3 e4 : Addr) (w : World) (hD : DefSl w a1 a2 k1 k2 ss fs) (hE : EvSl w (.slice a6 es.length k6) es) (F1 : FitS ss) (F2 : FitP fs) (FE : Fit es) (n1 : ss.length ≤ maxLen) (n2 : fs.length ≤ maxLen) (n6 : es.length ≤ maxLen) (hEr : ErrsAt w e0 e1 e2 e3 e4) :
    Calls Tryz.prog 5 #[svV a1 a2 a6 k1 k2 k6 ss fs es nx] w fun x w' => x = .returned (.bool true) ∧ Below w.heap.size w w' := by
  have hb0 : Below w.heap.size w (w.alloc (.cells #[.slice a1 ss.length k1, .slice a2 fs.length k2, .slice a6 es.length k6, .int .i64 nx] 51)) := (Below.refl _ _).alloc (Nat.le_refl _) _
  have HX := hid (heap_alloc_new w (.cells #[.slice a1 ss.length k1, .slice a2 fs.length k2, .slice a6 es.length k6, .int .i64 nx] 51))
  have HB0 := hid hb0
  have HD := hid hD
  have HV := hid hE
  have HE := hid hEr
  have cz1 := hid (szService_any a1 a2 a6 k1 k2 k6 ss fs es nx _ (hD.stay hb0) (hE.stay hb0 (Nat.le_refl _)) F1 F2 FE n1 n2 n6)
  have cSp := hid (fun (p1 p2 p6 : Option Addr) (q1 q2 q6 : Nat) V hD hE => specServiceRight_any p1 p2 p6 q1 q2 q6 ss fs es nx V hD hE F1 FE n1 n2 n6)
  have cIm := hid (fun (p1 p2 p6 : Option Addr) (q1 q2 q6 : Nat) V hD hE hR => implServiceRight_any p1 p2 p6 q1 q2 q6 ss fs es nx V hD hE F1 F2 FE n1 n2 n6 e0 e1 e2 e3 e4 hR)
  clear hD hE hEr hb0 F1 F2 FE n1 n2 n6
  go_enter Tryz.func5, Tryz.ntmps5
  go_wp2_with fail
  refine cz1.out.mono ?_
  generalize (w.alloc (.cells #[.slice a1 ss.length k1, .slice a2 fs.length k2, .slice a6 es.length k6, .int .i64 nx] 51)) = V0 at *
  rintro x V1 ⟨r1, rfl, hr1, hb1⟩
  have HC1 := hid hb1
  have HB1 := hid (HB0.out.trans (hb1.mono HB0.out.size))
  have hz1 := hb1.size
  clear hb1 cz1
  rcases hr1 with rfl | ⟨r10, r11, m1, m2, m6⟩
  · go_wp2_with fail
    go_ret
    exact ⟨rfl, HB1.out⟩
  have hX1 := (HC1.out.block _ (lt_heap HX.out)).trans HX.out
  have ca0 : V1.cell? ⟨w.heap.size, 0, none⟩ = some (.slice a1 ss.length k1) := by rw [Lib.cell_of_heap hX1]; rfl
  have ca1 : V1.cell? ⟨w.heap.size, 1, none⟩ = some (.slice a2 fs.length k2) := by rw [Lib.cell_of_heap hX1]; rfl
  have ca2 : V1.cell? ⟨w.heap.size, 2, none⟩ = some (.slice a6 es.length k6) := by rw [Lib.cell_of_heap hX1]; rfl
  have ca3 : V1.cell? ⟨w.heap.size, 3, none⟩ = some (.int .i64 nx) := by rw [Lib.cell_of_heap hX1]; rfl
  go_wp2_with fail
  refine (toService_any a1 a2 a6 k1 k2 k6 ss fs es nx _ (HD.out.stay HB1.out) (HV.out.stay HB1.out (Nat.le_refl _)) m1 m2 m6).mono ?_
  rintro x V3 ⟨p1, p2, p6, q1, q2, q6, rfl, hO3, hb3⟩
  clear ca0 ca1 ca2 ca3 hX1
  have HC3 := hid (HC1.out.trans (hb3.mono HC1.out.size))
  have HB3 := hid (HB1.out.trans (hb3.mono HB1.out.size))
  have hz3 := hb3.size
  have cc := hid (cSp.out p1 p2 p6 q1 q2 q6 V3 hO3.d.sl (sl_of_own hO3.o6))
  clear hb3 hO3 cSp
  go_wp2_with fail
  refine cc.out.mono ?_
  rintro x V5 ⟨⟨B, rfl, hB⟩, hb5⟩
  have TB := hid hB
  have HC5 := hid (HC3.out.trans (hb5.mono HC3.out.size))
  have HB5 := hid (HB3.out.trans (hb5.mono HB3.out.size))
  have hz5 := hb5.size
  clear hb5 cc hB
  have hX5 := (HC5.out.block _ (lt_heap HX.out)).trans HX.out
  have ca0 : V5.cell? ⟨w.heap.size, 0, none⟩ = some (.slice a1 ss.length k1) := by rw [Lib.cell_of_heap hX5]; rfl
  have ca1 : V5.cell? ⟨w.heap.size, 1, none⟩ = some (.slice a2 fs.length k2) := by rw [Lib.cell_of_heap hX5]; rfl
  have ca2 : V5.cell? ⟨w.heap.size, 2, none⟩ = some (.slice a6 es.length k6) := by rw [Lib.cell_of_heap hX5]; rfl
  have ca3 : V5.cell? ⟨w.heap.size, 3, none⟩ = some (.int .i64 nx) := by rw [Lib.cell_of_heap hX5]; rfl
  go_wp2_with fail
  refine (toService_any a1 a2 a6 k1 k2 k6 ss fs es nx _ (HD.out.stay HB5.out) (HV.out.stay HB5.out (Nat.le_refl _)) m1 m2 m6).mono ?_
  rintro x V6 ⟨d1, d2, d6, f1, f2, f6, rfl, hO6, hb6⟩
  clear ca0 ca1 ca2 ca3 hX5
  have HC6 := hid (HC5.out.trans (hb6.mono HC5.out.size))
  have HB6 := hid (HB5.out.trans (hb6.mono HB5.out.size))
  have hz6 := hb6.size
  have hb7 : Below V6.heap.size V6 (V6.alloc (.cells #[.slice d1 ss.length f1, .slice d2 fs.length f2, .slice d6 es.length f6, .int .i64 nx] 55)) := (Below.refl _ _).alloc (Nat.le_refl _) _
  have HX7 := hid (heap_alloc_new V6 (.cells #[.slice d1 ss.length f1, .slice d2 fs.length f2, .slice d6 es.length f6, .int .i64 nx] 55))
  have HO7 := hid (hO6.stay hb7)
  have HC7 := hid (HC6.out.trans (hb7.mono HC6.out.size))
  have HB7 := hid (HB6.out.trans (hb7.mono HB6.out.size))
  clear hb6 hb7 hO6
  go_upto_region 7 with fail
  generalize (V6.alloc (.cells #[.slice d1 ss.length f1, .slice d2 fs.length f2, .slice d6 es.length f6, .int .i64 nx] 55)) = V7 at *
  have cc := hid (cIm.out d1 d2 d6 f1 f2 f6 V7 HO7.out.d.sl (sl_of_own HO7.out.o6) (HE.out.stay HB7.out))
  have x0 : V7.cell? ⟨V6.heap.size, 0, none⟩ = some (.slice d1 ss.length f1) := by rw [Lib.cell_of_heap HX7.out]; rfl
  have x1 : V7.cell? ⟨V6.heap.size, 1, none⟩ = some (.slice d2 fs.length f2) := by rw [Lib.cell_of_heap HX7.out]; rfl
  have x2 : V7.cell? ⟨V6.heap.size, 2, none⟩ = some (.slice d6 es.length f6) := by rw [Lib.cell_of_heap HX7.out]; rfl
  have x3 : V7.cell? ⟨V6.heap.size, 3, none⟩ = some (.int .i64 nx) := by rw [Lib.cell_of_heap HX7.out]; rfl
  clear cIm
  go_wp2_with fail
  refine cc.out.mono ?_
  rintro x V9 ⟨⟨B', rfl, hB'⟩, hb9⟩
  obtain rfl : B' = B := hB'.same TB.out
  have HO9 := hid (HO7.out.stay hb9)
  have HX9 := hid ((hb9.block _ (lt_heap HX7.out)).trans HX7.out)
  have HC9 := hid (HC7.out.trans (hb9.mono HC7.out.size))
  have HB9 := hid (HB7.out.trans (hb9.mono HB7.out.size))
  have hz9 := hb9.size
  clear hb9 cc hB' x0 x1 x2 x3 TB
  have hXw := (HC9.out.block _ (lt_heap HX.out)).trans HX.out
  have ca0 : V9.cell? ⟨w.heap.size, 0, none⟩ = some (.slice a1 ss.length k1) := by rw [Lib.cell_of_heap hXw]; rfl
  have ca1 : V9.cell? ⟨w.heap.size, 1, none⟩ = some (.slice a2 fs.length k2) := by rw [Lib.cell_of_heap hXw]; rfl
  have ca2 : V9.cell? ⟨w.heap.size, 2, none⟩ = some (.slice a6 es.length k6) := by rw [Lib.cell_of_heap hXw]; rfl
  have ca3 : V9.cell? ⟨w.heap.size, 3, none⟩ = some (.int .i64 nx) := by rw [Lib.cell_of_heap hXw]; rfl
  have cd0 : V9.cell? ⟨V6.heap.size, 0, none⟩ = some (.slice d1 ss.length f1) := by rw [Lib.cell_of_heap HX9.out]; rfl
  have cd1 : V9.cell? ⟨V6.heap.size, 1, none⟩ = some (.slice d2 fs.length f2) := by rw [Lib.cell_of_heap HX9.out]; rfl
  have cd2 : V9.cell? ⟨V6.heap.size, 2, none⟩ = some (.slice d6 es.length f6) := by rw [Lib.cell_of_heap HX9.out]; rfl
  have cd3 : V9.cell? ⟨V6.heap.size, 3, none⟩ = some (.int .i64 nx) := by rw [Lib.cell_of_heap HX9.out]; rfl
  have hlA : w.heap.size < V9.heap.size := lt_heap hXw
  have hlB : V6.heap.size < V9.heap.size := lt_heap HX9.out
  have hbR : Below V9.heap.size V9 V9.drew := (Below.refl _ _).drew
  clear hXw
  go_wp2_with fail
  go_region_held3 (fun w' => w'.cell? ⟨w.heap.size, 0, none⟩ = some (.slice a1 ss.length k1) ∧ w'.cell? ⟨w.heap.size, 1, none⟩ = some (.slice a2 fs.length k2) ∧ w'.cell? ⟨w.heap.size, 2, none⟩ = some (.slice a6 es.length k6) ∧ w'.cell? ⟨w.heap.size, 3, none⟩ = some (.int .i64 nx) ∧ w'.cell? ⟨V6.heap.size, 0, none⟩ = some (.slice d1 ss.length f1) ∧ w'.cell? ⟨V6.heap.size, 1, none⟩ = some (.slice d2 fs.length f2) ∧ w'.cell? ⟨V6.heap.size, 2, none⟩ = some (.slice d6 es.length f6) ∧ w'.cell? ⟨V6.heap.size, 3, none⟩ = some (.int .i64 nx) ∧ Below V9.heap.size V9 w') (go_keep) (first
    | (go_at_call 25; refine (toService_any a1 a2 a6 k1 k2 k6 ss fs es nx _ ((HD.out.stay HB9.out).stay hbR) ((HV.out.stay HB9.out (Nat.le_refl _)).stay hbR (Nat.le_refl _)) m1 m2 m6).mono ?_; rintro x V16 ⟨i1, i2, i6, j1, j2, j6, rfl, hD16, hq16⟩; have hb16 := hbR.trans (hq16.mono hbR.size); have ka0_16 := (hb16.cell (p := ⟨w.heap.size, 0, none⟩) hlA).trans ca0; have ka1_16 := (hb16.cell (p := ⟨w.heap.size, 1, none⟩) hlA).trans ca1; have ka2_16 := (hb16.cell (p := ⟨w.heap.size, 2, none⟩) hlA).trans ca2; have ka3_16 := (hb16.cell (p := ⟨w.heap.size, 3, none⟩) hlA).trans ca3; have kb0_16 := (hb16.cell (p := ⟨V6.heap.size, 0, none⟩) hlB).trans cd0; have kb1_16 := (hb16.cell (p := ⟨V6.heap.size, 1, none⟩) hlB).trans cd1; have kb2_16 := (hb16.cell (p := ⟨V6.heap.size, 2, none⟩) hlB).trans cd2; have kb3_16 := (hb16.cell (p := ⟨V6.heap.size, 3, none⟩) hlB).trans cd3)
    | (go_at_call 27; refine (eqService_same d1 d2 d6 i1 i2 i6 f1 f2 f6 j1 j2 j6 ss fs es nx _ (HO9.out.stay hb16).d.sl (sl_of_own (HO9.out.stay hb16).o6) hD16.d.sl (sl_of_own hD16.o6) (Nat.le_trans m1 (by decide)) (Nat.le_trans m2 (by decide)) (Nat.le_trans m6 (by decide))).mono ?_; rintro x V17 ⟨rfl, hq17⟩; have hb17 := hb16.trans (hq17.mono hb16.size); have ka0_17 := (hb17.cell (p := ⟨w.heap.size, 0, none⟩) hlA).trans ca0; have ka1_17 := (hb17.cell (p := ⟨w.heap.size, 1, none⟩) hlA).trans ca1; have ka2_17 := (hb17.cell (p := ⟨w.heap.size, 2, none⟩) hlA).trans ca2; have ka3_17 := (hb17.cell (p := ⟨w.heap.size, 3, none⟩) hlA).trans ca3; have kb0_17 := (hb17.cell (p := ⟨V6.heap.size, 0, none⟩) hlB).trans cd0; have kb1_17 := (hb17.cell (p := ⟨V6.heap.size, 1, none⟩) hlB).trans cd1; have kb2_17 := (hb17.cell (p := ⟨V6.heap.size, 2, none⟩) hlB).trans cd2; have kb3_17 := (hb17.cell (p := ⟨V6.heap.size, 3, none⟩) hlB).trans cd3))
  have HB17 := hid (HB9.out.trans (hb17.mono HB9.out.size))
  clear hb16 hb17 hq16 hq17
  go_wp2_with fail
  go_ret
  exact ⟨rfl, HB17.out⟩
end Go.Proofs.YtadidjhcgmeadaaGreatDoor
