/-
  The law FnExactDurations, walked: it answers true. (Made by mkdulaw.py.)
-/
import Derived.Test.YthggcdadipjiiaaGreatDoorZImSO4
import Derived.Test.YthggcdadipjiiaaGreatDoorZDuL
import Derived.Test.YthggcdadipjiiaaGreatDoorZDfLaw5
import Derived.Test.YthggcdadipjiiaaGreatDoorZMkE3
import Derived.Deep.RegionHeld3
import Derived.Deep.CutRange
namespace Go.Proofs.YthggcdadipjiiaaGreatDoor
open Go.RowKit Go.Sort

theorem RowL.ltg {w : World} {base size n : Nat} {e : TypeId} {v : Value} {xs : List Value} (h : RowL w base e size v n xs) : ∀ g, v.ownBlock = some g → 0 < n → base ≤ g ∧ g < w.heap.size := fun g hg h0 => by
  obtain ⟨g', cap, L, rfl, hb, hh, _⟩ := h.2.2 h0
  obtain rfl : g' = g := by injection hg
  exact ⟨hb, lt_heap hh⟩
theorem RowL.chgB {p : Nat → Prop} {w w' : World} {base size n : Nat} {e : TypeId} {v : Value} {xs : List Value} (h : RowL w base e size v n xs) (hc : Chg p w w') (hp : ∀ g, v.ownBlock = some g → 0 < n → ¬ p g) : RowL w' base e size v n xs :=
  ⟨h.1, h.2.1, fun h0 => by
    obtain ⟨g, cap, L, rfl, hb, hh, h1, h2⟩ := h.2.2 h0
    exact ⟨g, cap, L, rfl, hb, (hc.block g (lt_heap hh) (hp g rfl h0)).trans hh, h1, h2⟩⟩
theorem row_ne {w : World} {base size n lo s2 m : Nat} {e e2 : TypeId} {v u : Value} {xs ys : List Value} (h : RowL w base e size v n xs) (o : w.ownsRow lo e2 s2 u m ys) (hne : e ≠ e2) : ∀ g, v.ownBlock = some g → 0 < n → u.ownBlock = some g → False := fun g hg h0 hu => by
  obtain ⟨g', cap, L, rfl, hb, hh, _⟩ := h.2.2 h0
  obtain rfl : g' = g := by injection hg
  obtain ⟨c, t, f, h1, h2⟩ := own_type o g' hu
  rw [hh] at h1
  injection h1 with h1
  injection h1 with _ h3 _
  exact hne (h3.trans h2)
set_option maxRecDepth 100000 in
set_option maxHeartbeats 8000000 in
theorem fnExactDurations_walk (a1 a2 a6 : Option Addr) (k1 k2 k6 : Nat) (ss : List ByteArray) (fs : List Pr) (es : List Ev) (e0 e1 e2 e3 e4 : Addr) (w : World) (hD : DefSl w a1 a2 k1 k2 ss fs) (hE : EvSl w (.slice a6 es.length k6) es) (F1 : FitS ss) (F2 : FitP fs) (FE : Fit es) (n1 : ss.length ≤ maxLen) (n2 : fs.length ≤ maxLen) (n6 : es.length ≤ maxLen) (hEr : ErrsAt w e0 e1 e2 e3 e4) :
    Calls Tryz.prog 4 #[defV a1 a2 k1 k2 ss fs, .slice a6 es.length k6] w fun x w' => x = .returned (.bool true) ∧ Below w.heap.size w w' := by
  have hb0 : Below w.heap.size w (w.alloc (.cells #[.slice a1 ss.length k1, .slice a2 fs.length k2] 39)) := (Below.refl _ _).alloc (Nat.le_refl _) _
  have hs0 : (w.alloc (.cells #[.slice a1 ss.length k1, .slice a2 fs.length k2] 39)).heap.size = w.heap.size + 1 := by simp
  have Kd0 := hid (show (w.alloc (.cells #[.slice a1 ss.length k1, .slice a2 fs.length k2] 39)).cell? ⟨w.heap.size, 0, none⟩ = some (.slice a1 ss.length k1) by simp [go_sem])
  have Kd1 := hid (show (w.alloc (.cells #[.slice a1 ss.length k1, .slice a2 fs.length k2] 39)).cell? ⟨w.heap.size, 1, none⟩ = some (.slice a2 fs.length k2) by simp [go_sem])
  have HB0 := hid hb0
  have HD := hid hD
  have HV := hid hE
  have HE := hid hEr
  have HF := hid FE
  obtain ⟨l, hl, hl2⟩ := duAns ss fs es
  have cz1 := hid (szDef_any a1 a2 k1 k2 ss fs 1048576 (w.alloc (.cells #[.slice a1 ss.length k1, .slice a2 fs.length k2] 39)) (hD.h1.stay hb0 (Nat.le_refl _)) (hD.h2.stay hb0 (Nat.le_refl _)) F1 F2 (by decide) (by decide) n1 n2)
  have cSp := hid (fun (p1 p2 p6 : Option Addr) (q1 q2 q6 : Nat) V hD hE => specDurations_any p1 p2 p6 q1 q2 q6 ss fs es l hl V hD hE F1 FE n1 n2 n6)
  have cIm := hid (fun (p1 p2 p6 : Option Addr) (q1 q2 q6 : Nat) V hD hE hR => implDurations_any p1 p2 p6 q1 q2 q6 ss fs es l hl V hD hE F1 F2 FE n1 n2 n6 e0 e1 e2 e3 e4 hR)
  have HN6 := hid n6
  clear hD hE hEr hb0 F1 F2 FE n1 n2 n6 hl
  go_enter Tryz.func4, Tryz.ntmps4
  go_wp2_with fail
  refine cz1.out.mono ?_
  generalize (w.alloc (.cells #[.slice a1 ss.length k1, .slice a2 fs.length k2] 39)) = V0 at *
  rintro x V1 ⟨r1, rfl, hr1, hb1⟩
  have HC1 := hid hb1
  have HB1 := hid (HB0.out.trans (hb1.mono HB0.out.size))
  have hz1 := hb1.size
  clear hb1 cz1
  rcases hr1 with rfl | ⟨r10, r11, m1, m2⟩
  · go_wp2_with fail
    go_ret
    exact ⟨rfl, HB1.out⟩
  have cz2 := hid (szEventS_all (.slice a6 es.length k6) es r1 V1 (HV.out.stay HB1.out (Nat.le_refl _)) HF.out r10 (by omega) HN6.out)
  have hr2 := szR_two es r10
  generalize szR r1 es = r2 at *
  go_wp2_with fail
  refine cz2.out.mono ?_
  rintro x V2 ⟨rfl, hb2⟩
  have HC2 := hid (HC1.out.trans (hb2.mono HC1.out.size))
  have HB2 := hid (HB1.out.trans (hb2.mono HB1.out.size))
  have hz2 := hb2.size
  clear hb2 cz2
  rcases hr2 with rfl | ⟨r20, m6'⟩
  · go_wp2_with fail
    go_ret
    exact ⟨rfl, HB2.out⟩
  have m6 : es.length ≤ 1048576 := by omega
  clear m6'
  have ca0 := (HC2.out.cell (p := ⟨w.heap.size, 0, none⟩) (by show w.heap.size < _; omega)).trans Kd0.out
  have ca1 := (HC2.out.cell (p := ⟨w.heap.size, 1, none⟩) (by show w.heap.size < _; omega)).trans Kd1.out
  go_wp2_with fail
  refine (toDef_own a1 a2 k1 k2 ss fs _ (HD.out.stay HB2.out) m1 m2).mono ?_
  rintro x V3 ⟨p1, p2, q1, q2, rfl, hO3, hb3⟩
  clear ca0 ca1
  have HC3 := hid (HC2.out.trans (hb3.mono HC2.out.size))
  have HB3 := hid (HB2.out.trans (hb3.mono HB2.out.size))
  have hz3 := hb3.size
  clear hb3
  go_wp2_with fail
  refine (toEventS_any (.slice a6 es.length k6) es _ (HV.out.stay HB3.out (Nat.le_refl _)) m6).mono ?_
  rintro x V4 ⟨vv, rfl, hu4, hb4⟩
  obtain ⟨p6, q6, rfl⟩ := ownB_form hu4
  have HC4 := hid (HC3.out.trans (hb4.mono HC3.out.size))
  have HB4 := hid (HB3.out.trans (hb4.mono HB3.out.size))
  have hz4 := hb4.size
  have cc := hid (cSp.out p1 p2 p6 q1 q2 q6 V4 (hO3.stay hb4).sl (sl_of_own hu4))
  clear hb4 hO3 hu4
  go_wp2_with fail
  refine cc.out.mono ?_
  rintro x V5 ⟨vs, rfl, hr5, hb5⟩
  have HC5 := hid (HC4.out.trans (hb5.mono HC4.out.size))
  have HB5 := hid (HB4.out.trans (hb5.mono HB4.out.size))
  have hz5 := hb5.size
  have HOs_5 := hid hr5
  have Hsl := hid (fun g hg h0 => (RowL.ltg hr5 g hg h0).2)
  clear hr5 hb5 cc
  have ca0 := (HC5.out.cell (p := ⟨w.heap.size, 0, none⟩) (by show w.heap.size < _; omega)).trans Kd0.out
  have ca1 := (HC5.out.cell (p := ⟨w.heap.size, 1, none⟩) (by show w.heap.size < _; omega)).trans Kd1.out
  go_wp2_with fail
  refine (toDef_own a1 a2 k1 k2 ss fs _ (HD.out.stay HB5.out) m1 m2).mono ?_
  rintro x V6 ⟨d1, d2, f1, f2, rfl, hO6, hb6⟩
  clear ca0 ca1
  have HC6 := hid (HC5.out.trans (hb6.mono HC5.out.size))
  have HB6 := hid (HB5.out.trans (hb6.mono HB5.out.size))
  have hz6 := hb6.size
  have HOs_6 := hid (RowL.stay HOs_5.out hb6)
  clear HOs_5
  clear hb6
  have hb7 : Below V6.heap.size V6 (V6.alloc (.cells #[.slice d1 ss.length f1, .slice d2 fs.length f2] 26)) := (Below.refl _ _).alloc (Nat.le_refl _) _
  have HC7 := hid (HC6.out.trans (hb7.mono HC6.out.size))
  have HB7 := hid (HB6.out.trans (hb7.mono HB6.out.size))
  have hz7 := hb7.size
  have HOs_7 := hid (RowL.stay HOs_6.out hb7)
  clear HOs_6
  have HKd_7 := hid (heap_alloc_new V6 (.cells #[.slice d1 ss.length f1, .slice d2 fs.length f2] 26))
  have HOd_7 := hid (hO6.stay hb7)
  clear hb7 hO6
  go_upto_region 10 with fail
  generalize (V6.alloc (.cells #[.slice d1 ss.length f1, .slice d2 fs.length f2] 26)) = V7 at *
  generalize V6.heap.size = b7 at *
  go_wp2_with fail
  refine (toEventS_any (.slice a6 es.length k6) es _ (HV.out.stay HB7.out (Nat.le_refl _)) m6).mono ?_
  rintro x V8 ⟨vv, rfl, hu8, hb8⟩
  obtain ⟨p6, q6, rfl⟩ := ownB_form hu8
  have HC8 := hid (HC7.out.trans (hb8.mono HC7.out.size))
  have HB8 := hid (HB7.out.trans (hb8.mono HB7.out.size))
  have hz8 := hb8.size
  have HKd_8 := hid ((hb8.block _ (lt_heap HKd_7.out)).trans HKd_7.out)
  have HOs_8 := hid (RowL.stay HOs_7.out hb8)
  have HOd_8 := hid (DefOwn.stay HOd_7.out hb8)
  clear HKd_7 HOs_7 HOd_7
  have HOu_8 := hid hu8
  clear hb8 hu8
  have cd0 : V8.cell? ⟨b7, 0, none⟩ = some (.slice d1 ss.length f1) := by rw [Lib.cell_of_heap HKd_8.out]; rfl
  have cd1 : V8.cell? ⟨b7, 1, none⟩ = some (.slice d2 fs.length f2) := by rw [Lib.cell_of_heap HKd_8.out]; rfl
  have cc := hid (cIm.out d1 d2 p6 f1 f2 q6 V8 HOd_8.out.sl (sl_of_own HOu_8.out) (HE.out.stay HB8.out))
  go_wp2_with fail
  refine cc.out.mono ?_
  rintro x V9 ⟨vg, rfl, hr9, hb9⟩
  clear cd0 cd1
  have HC9 := hid (HC8.out.trans (hb9.mono HC8.out.size))
  have HB9 := hid (HB8.out.trans (hb9.mono HB8.out.size))
  have hz9 := hb9.size
  have HKd_9 := hid ((hb9.block _ (lt_heap HKd_8.out)).trans HKd_8.out)
  have HOs_9 := hid (RowL.stay HOs_8.out hb9)
  have HOd_9 := hid (DefOwn.stay HOd_8.out hb9)
  have HOu_9 := hid (ownB_stay HOu_8.out hb9)
  clear HKd_8 HOs_8 HOd_8 HOu_8
  have HOg_9 := hid hr9
  clear hb9 cc hr9
  have cq := eqDurS_any _ _ _ _ _ _ l V9 HOg_9.out HOs_9.out (Nat.le_trans hl2 (by decide))
  go_wp2_with fail
  refine cq.mono ?_
  rintro x V10 ⟨rfl, hb10⟩
  clear cq
  have HC10 := hid (HC9.out.trans (hb10.mono HC9.out.size))
  have HB10 := hid (HB9.out.trans (hb10.mono HB9.out.size))
  have hz10 := hb10.size
  have HKd_10 := hid ((hb10.block _ (lt_heap HKd_9.out)).trans HKd_9.out)
  have HOs_10 := hid (RowL.stay HOs_9.out hb10)
  have HOd_10 := hid (DefOwn.stay HOd_9.out hb10)
  have HOu_10 := hid (ownB_stay HOu_9.out hb10)
  have HOg_10 := hid (RowL.stay HOg_9.out hb10)
  clear HKd_9 HOs_9 HOd_9 HOu_9 HOg_9
  clear hb10
  have ca0 := (HC10.out.cell (p := ⟨w.heap.size, 0, none⟩) (by show w.heap.size < _; omega)).trans Kd0.out
  have ca1 := (HC10.out.cell (p := ⟨w.heap.size, 1, none⟩) (by show w.heap.size < _; omega)).trans Kd1.out
  have cd0 : V10.cell? ⟨b7, 0, none⟩ = some (.slice d1 ss.length f1) := by rw [Lib.cell_of_heap HKd_10.out]; rfl
  have cd1 : V10.cell? ⟨b7, 1, none⟩ = some (.slice d2 fs.length f2) := by rw [Lib.cell_of_heap HKd_10.out]; rfl
  have hlA : w.heap.size < V10.heap.size := by have := HC10.out.size; omega
  have hlB : b7 < V10.heap.size := lt_heap HKd_10.out
  have hbR : Below V10.heap.size V10 V10.drew := (Below.refl _ _).drew
  go_wp2_with fail
  go_region_held3 (fun w' => w'.cell? ⟨w.heap.size, 0, none⟩ = some (.slice a1 ss.length k1) ∧ w'.cell? ⟨w.heap.size, 1, none⟩ = some (.slice a2 fs.length k2) ∧ w'.cell? ⟨b7, 0, none⟩ = some (.slice d1 ss.length f1) ∧ w'.cell? ⟨b7, 1, none⟩ = some (.slice d2 fs.length f2) ∧ Below V10.heap.size V10 w') (go_keep) (first | (go_at_call 10; refine (toDef_own a1 a2 k1 k2 ss fs _ ((HD.out.stay HB10.out).stay hbR) m1 m2).mono ?_; rintro x V11 ⟨i1, i2, j1, j2, rfl, hD11, hq11⟩; have hb11 := hbR.trans (hq11.mono hbR.size); have ka0_11 := (hb11.cell (p := ⟨w.heap.size, 0, none⟩) hlA).trans ca0; have ka1_11 := (hb11.cell (p := ⟨w.heap.size, 1, none⟩) hlA).trans ca1; have kb0_11 := (hb11.cell (p := ⟨b7, 0, none⟩) hlB).trans cd0; have kb1_11 := (hb11.cell (p := ⟨b7, 1, none⟩) hlB).trans cd1) | (go_at_call 13; refine (eqDef_same d1 d2 i1 i2 f1 f2 j1 j2 ss fs _ (HOd_10.out.stay hb11).sl.h1 (HOd_10.out.stay hb11).sl.h2 hD11.sl.h1 hD11.sl.h2 (Nat.le_trans m1 (by decide)) (Nat.le_trans m2 (by decide))).mono ?_; rintro x V12 ⟨rfl, hq12⟩; have hb12 := hb11.trans (hq12.mono hb11.size); have ka0_12 := (hb12.cell (p := ⟨w.heap.size, 0, none⟩) hlA).trans ca0; have ka1_12 := (hb12.cell (p := ⟨w.heap.size, 1, none⟩) hlA).trans ca1; have kb0_12 := (hb12.cell (p := ⟨b7, 0, none⟩) hlB).trans cd0; have kb1_12 := (hb12.cell (p := ⟨b7, 1, none⟩) hlB).trans cd1))
  have HC12 := hid (HC10.out.trans (hb12.mono HC10.out.size))
  have HB12 := hid (HB10.out.trans (hb12.mono HB10.out.size))
  have hz12 := hb12.size
  have HKd_12 := hid ((hb12.block _ (lt_heap HKd_10.out)).trans HKd_10.out)
  have HOs_12 := hid (RowL.stay HOs_10.out hb12)
  have HOd_12 := hid (DefOwn.stay HOd_10.out hb12)
  have HOu_12 := hid (ownB_stay HOu_10.out hb12)
  have HOg_12 := hid (RowL.stay HOg_10.out hb12)
  clear HKd_10 HOs_10 HOd_10 HOu_10 HOg_10
  clear hlA hlB hbR hq11 hD11 hb11 hq12 hb12 ka0_11 ka0_12 ka1_11 ka1_12 kb0_11 kb0_12 kb1_11 kb1_12
  clear cd0 cd1
  clear ca0 ca1
  go_wp2_with fail
  refine (toEventS_any (.slice a6 es.length k6) es _ (HV.out.stay HB12.out (Nat.le_refl _)) m6).mono ?_
  rintro x V13 ⟨vv, rfl, hu13, hb13⟩
  obtain ⟨p6z, q6z, rfl⟩ := ownB_form hu13
  have HC13 := hid (HC12.out.trans (hb13.mono HC12.out.size))
  have HB13 := hid (HB12.out.trans (hb13.mono HB12.out.size))
  have hz13 := hb13.size
  have HKd_13 := hid ((hb13.block _ (lt_heap HKd_12.out)).trans HKd_12.out)
  have HOs_13 := hid (RowL.stay HOs_12.out hb13)
  have HOd_13 := hid (DefOwn.stay HOd_12.out hb13)
  have HOu_13 := hid (ownB_stay HOu_12.out hb13)
  have HOg_13 := hid (RowL.stay HOg_12.out hb13)
  clear HKd_12 HOs_12 HOd_12 HOu_12 HOg_12
  have cc := hid (eqEventS_any (.slice p6 es.length q6) (.slice p6z es.length q6z) es V13 (sl_of_own HOu_13.out) (sl_of_own hu13) (Nat.le_trans m6 (by decide)))
  clear hb13 hu13
  go_wp2_with fail
  refine cc.out.mono ?_
  rintro x V14 ⟨rfl, hb14⟩
  have HC14 := hid (HC13.out.trans (hb14.mono HC13.out.size))
  have HB14 := hid (HB13.out.trans (hb14.mono HB13.out.size))
  have hz14 := hb14.size
  have HKd_14 := hid ((hb14.block _ (lt_heap HKd_13.out)).trans HKd_13.out)
  have HOs_14 := hid (RowL.stay HOs_13.out hb14)
  have HOd_14 := hid (DefOwn.stay HOd_13.out hb14)
  have HOu_14 := hid (ownB_stay HOu_13.out hb14)
  have HOg_14 := hid (RowL.stay HOg_13.out hb14)
  clear HKd_13 HOs_13 HOd_13 HOu_13 HOg_13
  clear hb14 cc
  have cd0 : V14.cell? ⟨b7, 0, none⟩ = some (.slice d1 ss.length f1) := by rw [Lib.cell_of_heap HKd_14.out]; rfl
  have cd1 : V14.cell? ⟨b7, 1, none⟩ = some (.slice d2 fs.length f2) := by rw [Lib.cell_of_heap HKd_14.out]; rfl
  go_wp2_with fail
  refine (markDef_own _ ss.length fs.length 1 _ _ _ _ _ HOd_14.out.o1 HOd_14.out.o2 (by decide) (by omega)).mono ?_
  rintro x V15 ⟨rfl, hc15⟩
  clear cd0 cd1
  have HC15 := hid (HC14.out.trans (hc15.below HC14.out.size (fun j h => by have hj : V5.heap.size ≤ j := h.elim (fun h => (own_lt HOd_14.out.o1 j h).1) (fun h => (own_lt HOd_14.out.o2 j h).1); have := HC5.out.size; have := HB5.out.size; have := HC6.out.size; omega)))
  have HB15 := hid (HB14.out.trans (hc15.below HB14.out.size (fun j h => by have hj : V5.heap.size ≤ j := h.elim (fun h => (own_lt HOd_14.out.o1 j h).1) (fun h => (own_lt HOd_14.out.o2 j h).1); have := HC5.out.size; have := HB5.out.size; have := HB6.out.size; omega)))
  have hz15 := hc15.size
  have HOs_15 := hid (RowL.chgB HOs_14.out hc15 (fun g hg h0 hp => hp.elim (fun h => row_ne HOs_14.out HOd_14.out.o1 (by decide) g hg h0 h) (fun h => row_ne HOs_14.out HOd_14.out.o2 (by decide) g hg h0 h)))
  have HOg_15 := hid (RowL.chgB HOg_14.out hc15 (fun g hg h0 hp => hp.elim (fun h => row_ne HOg_14.out HOd_14.out.o1 (by decide) g hg h0 h) (fun h => row_ne HOg_14.out HOd_14.out.o2 (by decide) g hg h0 h)))
  have HOu_15 := hid (own_chg HOu_14.out hc15 (fun g hg h => h.elim (fun h => apart_ty HOu_14.out HOd_14.out.o1 (by decide) g hg h) (fun h => apart_ty HOu_14.out HOd_14.out.o2 (by decide) g hg h)))
  clear HOs_14 HOg_14 HOu_14 HOd_14 HKd_14 hc15
  have hK1 : 0 < (1 + (ss.length : Int) + 2 * (fs.length : Int)) ∧ (1 + (ss.length : Int) + 2 * (fs.length : Int)) ≤ 4000000 := by omega
  generalize (1 + (ss.length : Int) + 2 * (fs.length : Int)) = K1 at *
  go_wp2_with fail
  refine (markEventS_own _ es.length _ K1 _ _ HOu_15.out hK1.1 (by omega)).mono ?_
  rintro x V16 ⟨rfl, hc16⟩
  have HC16 := hid (HC15.out.trans (hc16.below HC15.out.size (fun j h => by have hj := own_lt HOu_15.out j h; have := HC7.out.size; have := HB7.out.size; have := HC6.out.size; omega)))
  have HB16 := hid (HB15.out.trans (hc16.below HB15.out.size (fun j h => by have hj := own_lt HOu_15.out j h; have := HC7.out.size; have := HB7.out.size; have := HB6.out.size; omega)))
  have hz16 := hc16.size
  have HOs_16 := hid (RowL.chgB HOs_15.out hc16 (fun g hg h0 hp => row_ne HOs_15.out HOu_15.out (by decide) g hg h0 hp))
  have HOg_16 := hid (RowL.chgB HOg_15.out hc16 (fun g hg h0 hp => row_ne HOg_15.out HOu_15.out (by decide) g hg h0 hp))
  clear HOs_15 HOg_15 HOu_15 hc16
  have hK2 : 0 < K1 + 6 * (es.length : Int) := by omega
  generalize K1 + 6 * (es.length : Int) = K2 at *
  have hK2n : decide (K2 < 0) = false := by simp; omega
  have cq := eqDurS_any _ _ _ _ _ _ l V16 HOg_16.out HOs_16.out (Nat.le_trans hl2 (by decide))
  go_wp2_with fail
  refine cq.mono ?_
  rintro x V17 ⟨rfl, hb17⟩
  clear cq
  have HC17 := hid (HC16.out.trans (hb17.mono HC16.out.size))
  have HB17 := hid (HB16.out.trans (hb17.mono HB16.out.size))
  have hz17 := hb17.size
  have HOs_17 := hid (RowL.stay HOs_16.out hb17)
  have HOg_17 := hid (RowL.stay HOg_16.out hb17)
  clear HOs_16 HOg_16
  clear hb17
  go_wp2_with fail
  refine (markDurS_rowL _ l.length _ 1 _ _ HOg_17.out (by decide) (by omega)).mono ?_
  rintro x V18 ⟨rfl, hr18, hc18⟩
  have HC18 := hid (HC17.out.trans (hc18.below HC17.out.size (fun j h => by have hj := RowL.ltg HOg_17.out j h.2 h.1; have := HC8.out.size; have := HB8.out.size; have := HC6.out.size; omega)))
  have HB18 := hid (HB17.out.trans (hc18.below HB17.out.size (fun j h => by have hj := RowL.ltg HOg_17.out j h.2 h.1; have := HC8.out.size; have := HB8.out.size; have := HB6.out.size; omega)))
  have hz18 := hc18.size
  have HOs_18 := hid (RowL.chgB HOs_17.out hc18 (fun g hg h0 hp => by have h1 := Hsl.out g hg h0; have h2 := (RowL.ltg HOg_17.out g hp.2 hp.1).1; omega))
  have HOg_18 := hid hr18
  clear hr18 hc18 HOs_17 HOg_17
  go_wp2_with fail
  refine (heldDurS_rowL _ l.length _ 1 _ HOg_18.out (by decide) (by omega)).mono ?_
  rintro x V19 ⟨rfl, hb19⟩
  have HC19 := hid (HC18.out.trans (hb19.mono HC18.out.size))
  have HB19 := hid (HB18.out.trans (hb19.mono HB18.out.size))
  have hz19 := hb19.size
  have HOs_19 := hid (RowL.stay HOs_18.out hb19)
  have HOg_19 := hid (RowL.stay HOg_18.out hb19)
  clear HOs_18 HOg_18
  clear hb19
  have hK3 : 0 < 1 + 5 * (l.length : Int) := by omega
  have cH := hid (fun (V : World) (hV : RowL V V8.heap.size 35 5 vg l.length (dflat (marksD 1 l.length))) => heldDurS_rowL vg l.length V8.heap.size 1 V hV (by decide) (by omega))
  generalize hK3e : 1 + 5 * (l.length : Int) = K3 at *
  have hK3n : decide (K3 < 0) = false := by simp; omega
  clear hK3e
  have ca0 := (HC19.out.cell (p := ⟨w.heap.size, 0, none⟩) (by show w.heap.size < _; omega)).trans Kd0.out
  have ca1 := (HC19.out.cell (p := ⟨w.heap.size, 1, none⟩) (by show w.heap.size < _; omega)).trans Kd1.out
  go_wp2_with fail
  refine (toDef_own a1 a2 k1 k2 ss fs _ (HD.out.stay HB19.out) m1 m2).mono ?_
  rintro x V20 ⟨p1p, p2p, q1p, q2p, rfl, hO20, hb20⟩
  clear ca0 ca1
  have HC20 := hid (HC19.out.trans (hb20.mono HC19.out.size))
  have HB20 := hid (HB19.out.trans (hb20.mono HB19.out.size))
  have hz20 := hb20.size
  have HOs_20 := hid (RowL.stay HOs_19.out hb20)
  have HOg_20 := hid (RowL.stay HOg_19.out hb20)
  clear HOs_19 HOg_19
  clear hb20
  go_wp2_with fail
  refine (toEventS_any (.slice a6 es.length k6) es _ (HV.out.stay HB20.out (Nat.le_refl _)) m6).mono ?_
  rintro x V21 ⟨vv, rfl, hu21, hb21⟩
  obtain ⟨p6p, q6p, rfl⟩ := ownB_form hu21
  have HC21 := hid (HC20.out.trans (hb21.mono HC20.out.size))
  have HB21 := hid (HB20.out.trans (hb21.mono HB20.out.size))
  have hz21 := hb21.size
  have HOs_21 := hid (RowL.stay HOs_20.out hb21)
  have HOg_21 := hid (RowL.stay HOg_20.out hb21)
  clear HOs_20 HOg_20
  have cc := hid (cIm.out p1p p2p p6p q1p q2p q6p V21 (hO20.stay hb21).sl (sl_of_own hu21) (HE.out.stay HB21.out))
  clear hb21 hO20 hu21
  go_wp2_with fail
  refine cc.out.mono ?_
  rintro x V22 ⟨vh, rfl, hr22, hb22⟩
  have HC22 := hid (HC21.out.trans (hb22.mono HC21.out.size))
  have HB22 := hid (HB21.out.trans (hb22.mono HB21.out.size))
  have hz22 := hb22.size
  have HOs_22 := hid (RowL.stay HOs_21.out hb22)
  have HOg_22 := hid (RowL.stay HOg_21.out hb22)
  clear HOs_21 HOg_21
  have HOh_22 := hid hr22
  clear hr22 hb22 cc
  have cq := eqDurS_any _ _ _ _ _ _ l V22 HOh_22.out HOs_22.out (Nat.le_trans hl2 (by decide))
  go_wp2_with fail
  refine cq.mono ?_
  rintro x V23 ⟨rfl, hb23⟩
  clear cq
  have HC23 := hid (HC22.out.trans (hb23.mono HC22.out.size))
  have HB23 := hid (HB22.out.trans (hb23.mono HB22.out.size))
  have hz23 := hb23.size
  have HOs_23 := hid (RowL.stay HOs_22.out hb23)
  have HOg_23 := hid (RowL.stay HOg_22.out hb23)
  clear HOs_22 HOg_22
  clear hb23
  go_wp2_with fail
  refine (cH.out _ HOg_23.out).mono ?_
  rintro x V24 ⟨rfl, hb24⟩
  have HB24 := hid (HB23.out.trans (hb24.mono HB23.out.size))
  go_wp2_with fail
  go_ret
  exact ⟨rfl, HB24.out⟩
end Go.Proofs.YthggcdadipjiiaaGreatDoor
