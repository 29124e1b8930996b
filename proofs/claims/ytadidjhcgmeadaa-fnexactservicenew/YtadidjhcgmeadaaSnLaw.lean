/-
  The law FnExactServiceNew, walked: it answers true. (Made by mksnlaw.py.)
-/
import Derived.Test.YtadidjhcgmeadaaSpSn
import Derived.Test.YtadidjhcgmeadaaImSn
import Derived.Test.YtadidjhcgmeadaaSnMk
import Derived.Test.YtadidjhcgmeadaaSvEq
import Derived.Deep.RegionHeld3
import Derived.Deep.CutRange
namespace Go.Proofs.Ytadidjhcgmeadaa
open Go.RowKit Go.Sort

set_option maxRecDepth 100000 in
set_option maxHeartbeats 8000000 in
theorem fnExactServiceNew_walk (a1 a2 : Option Addr) (k1 k2 : Nat) (ss : List ByteArray) (fs : List Pr) (w : World) (hD : DefSl w a1 a2 k1 k2 ss fs) (F1 : FitS ss) (F2 : FitP fs) (n1 : ss.length ≤ maxLen) (n2 : fs.length ≤ maxLen) :
    Calls Try.prog 3 #[.agg #[.slice a1 ss.length k1, .slice a2 fs.length k2]] w fun x w' => x = .returned (.bool true) ∧ Below w.heap.size w w' := by
  have hb0 : Below w.heap.size w (w.alloc (.cells #[.slice a1 ss.length k1, .slice a2 fs.length k2] 25)) := (Below.refl _ _).alloc (Nat.le_refl _) _
  have HKa_0 := hid (heap_alloc_new w (.cells #[.slice a1 ss.length k1, .slice a2 fs.length k2] 25))
  have hs0 : (w.alloc (.cells #[.slice a1 ss.length k1, .slice a2 fs.length k2] 25)).heap.size = w.heap.size + 1 := by simp
  have HB0 := hid hb0
  have HD := hid hD
  have cz1 := hid (szDef_any a1 a2 k1 k2 ss fs 1048576 (w.alloc (.cells #[.slice a1 ss.length k1, .slice a2 fs.length k2] 25)) (hD.h1.stay hb0 (Nat.le_refl _)) (hD.h2.stay hb0 (Nat.le_refl _)) F1 F2 (by decide) (by decide) n1 n2)
  have cSp := hid (fun (p1 p2 : Option Addr) (q1 q2 : Nat) V hD => specServiceNew_any p1 p2 q1 q2 ss fs V hD F1 n1 n2)
  have cIm := hid (fun (p1 p2 : Option Addr) (q1 q2 : Nat) V hD => implServiceNew_any p1 p2 q1 q2 ss fs V hD F1 n1 n2)
  obtain ⟨l1, l2⟩ := sn_len ss fs
  generalize snS ss fs = S at *
  generalize snF ss fs = F at *
  generalize snN ss fs = N at *
  clear hD hb0 F1 F2 n1 n2
  go_enter Try.func3, Try.ntmps3
  go_wp2_with fail
  refine cz1.out.mono ?_
  generalize (w.alloc (.cells #[.slice a1 ss.length k1, .slice a2 fs.length k2] 25)) = V0 at *
  rintro x V1 ⟨r1, rfl, hr1, hb1⟩
  have HKa_1 := hid ((hb1.block _ (lt_heap HKa_0.out)).trans HKa_0.out)
  have HB1 := hid (HB0.out.trans (hb1.mono HB0.out.size))
  have hz1 := hb1.size
  clear HKa_0
  clear hb1 cz1
  rcases hr1 with rfl | ⟨r10, r11, m1, m2⟩
  · go_wp2_with fail
    go_ret
    exact ⟨rfl, HB1.out⟩
  have ca0 : V1.cell? ⟨w.heap.size, 0, none⟩ = some (.slice a1 ss.length k1) := by rw [Lib.cell_of_heap HKa_1.out]; rfl
  have ca1 : V1.cell? ⟨w.heap.size, 1, none⟩ = some (.slice a2 fs.length k2) := by rw [Lib.cell_of_heap HKa_1.out]; rfl
  go_wp2_with fail
  refine (toDef_own a1 a2 k1 k2 ss fs _ (HD.out.stay HB1.out) m1 m2).mono ?_
  rintro x V2 ⟨p1, p2, q1, q2, rfl, hO2, hb2⟩
  clear ca0 ca1
  have HKa_2 := hid ((hb2.block _ (lt_heap HKa_1.out)).trans HKa_1.out)
  have HB2 := hid (HB1.out.trans (hb2.mono HB1.out.size))
  have hz2 := hb2.size
  clear HKa_1
  clear hb2
  have cc := hid (cSp.out p1 p2 q1 q2 V2 hO2.sl)
  go_wp2_with fail
  refine cc.out.mono ?_
  rintro x V3 ⟨x14, x24, x64, y14, y24, y64, rfl, hOn, hbn⟩
  have HKa_3 := hid ((hbn.block _ (lt_heap HKa_2.out)).trans HKa_2.out)
  have HB3 := hid (HB2.out.trans (hbn.mono HB2.out.size))
  have hz3 := hbn.size
  clear HKa_2
  clear hbn cc
  clear hO2 cSp
  have HO4_3 := hid hOn
  have H4l := hid (show ∀ j, ((Value.slice x14 S.length y14).ownBlock = some j ∨ (Value.slice x24 F.length y24).ownBlock = some j ∨ (Value.slice x64 0 y64).ownBlock = some j) → j < V3.heap.size from fun j h => by rcases h with h | h | h; exact (hOn.d.o1.lt j h).2; exact (hOn.d.o2.lt j h).2; exact (hOn.o6.lt j h).2)
  clear hOn
  have hbx : Below V3.heap.size V3 (V3.alloc (.cells #[.slice x14 S.length y14, .slice x24 F.length y24, .slice x64 0 y64, .int .i64 N] 32)) := (Below.refl _ _).alloc (Nat.le_refl _) _
  have HK4_4 := hid (heap_alloc_new V3 (.cells #[.slice x14 S.length y14, .slice x24 F.length y24, .slice x64 0 y64, .int .i64 N] 32))
  have hs4 : (V3.alloc (.cells #[.slice x14 S.length y14, .slice x24 F.length y24, .slice x64 0 y64, .int .i64 N] 32)).heap.size = V3.heap.size + 1 := by simp
  have HKa_4 := hid ((hbx.block _ (lt_heap HKa_3.out)).trans HKa_3.out)
  have HO4_4 := hid (HO4_3.out.stay hbx)
  have HB4 := hid (HB3.out.trans (hbx.mono HB3.out.size))
  have hz4 := hbx.size
  clear HKa_3 HO4_3
  clear hbx
  go_upto_region 6 with fail
  generalize (V3.alloc (.cells #[.slice x14 S.length y14, .slice x24 F.length y24, .slice x64 0 y64, .int .i64 N] 32)) = V4 at *
  have ca0 : V4.cell? ⟨w.heap.size, 0, none⟩ = some (.slice a1 ss.length k1) := by rw [Lib.cell_of_heap HKa_4.out]; rfl
  have ca1 : V4.cell? ⟨w.heap.size, 1, none⟩ = some (.slice a2 fs.length k2) := by rw [Lib.cell_of_heap HKa_4.out]; rfl
  go_wp2_with fail
  refine (toDef_own a1 a2 k1 k2 ss fs _ (HD.out.stay HB4.out) m1 m2).mono ?_
  rintro x V5 ⟨d1, d2, f1, f2, rfl, hO5, hb5⟩
  clear ca0 ca1
  have HKa_5 := hid ((hb5.block _ (lt_heap HKa_4.out)).trans HKa_4.out)
  have HK4_5 := hid ((hb5.block _ (lt_heap HK4_4.out)).trans HK4_4.out)
  have HO4_5 := hid (HO4_4.out.stay hb5)
  have HB5 := hid (HB4.out.trans (hb5.mono HB4.out.size))
  have hz5 := hb5.size
  clear HKa_4 HK4_4 HO4_4
  have HOd_5 := hid hO5
  have Hdl := hid (show ∀ j, ((Value.slice d1 ss.length f1).ownBlock = some j ∨ (Value.slice d2 fs.length f2).ownBlock = some j) → V4.heap.size ≤ j ∧ j < V5.heap.size from fun j h => by rcases h with h | h; exact hO5.o1.lt j h; exact hO5.o2.lt j h)
  clear hO5 hb5
  have hbx : Below V5.heap.size V5 (V5.alloc (.cells #[.slice d1 ss.length f1, .slice d2 fs.length f2] 29)) := (Below.refl _ _).alloc (Nat.le_refl _) _
  have HKd_6 := hid (heap_alloc_new V5 (.cells #[.slice d1 ss.length f1, .slice d2 fs.length f2] 29))
  have hs6 : (V5.alloc (.cells #[.slice d1 ss.length f1, .slice d2 fs.length f2] 29)).heap.size = V5.heap.size + 1 := by simp
  have HKa_6 := hid ((hbx.block _ (lt_heap HKa_5.out)).trans HKa_5.out)
  have HK4_6 := hid ((hbx.block _ (lt_heap HK4_5.out)).trans HK4_5.out)
  have HO4_6 := hid (HO4_5.out.stay hbx)
  have HOd_6 := hid (HOd_5.out.stay hbx)
  have HB6 := hid (HB5.out.trans (hbx.mono HB5.out.size))
  have hz6 := hbx.size
  clear HKa_5 HK4_5 HO4_5 HOd_5
  clear hbx
  go_upto_region 7 with fail
  generalize (V5.alloc (.cells #[.slice d1 ss.length f1, .slice d2 fs.length f2] 29)) = V6 at *
  have cd0 : V6.cell? ⟨V5.heap.size, 0, none⟩ = some (.slice d1 ss.length f1) := by rw [Lib.cell_of_heap HKd_6.out]; rfl
  have cd1 : V6.cell? ⟨V5.heap.size, 1, none⟩ = some (.slice d2 fs.length f2) := by rw [Lib.cell_of_heap HKd_6.out]; rfl
  have cc := hid (cIm.out d1 d2 f1 f2 V6 HOd_6.out.sl)
  go_wp2_with fail
  refine cc.out.mono ?_
  rintro x V7 ⟨x16, x26, x66, y16, y26, y66, rfl, hOn, hbn⟩
  have HKa_7 := hid ((hbn.block _ (lt_heap HKa_6.out)).trans HKa_6.out)
  have HK4_7 := hid ((hbn.block _ (lt_heap HK4_6.out)).trans HK4_6.out)
  have HKd_7 := hid ((hbn.block _ (lt_heap HKd_6.out)).trans HKd_6.out)
  have HO4_7 := hid (HO4_6.out.stay hbn)
  have HOd_7 := hid (HOd_6.out.stay hbn)
  have HB7 := hid (HB6.out.trans (hbn.mono HB6.out.size))
  have hz7 := hbn.size
  clear HKa_6 HK4_6 HKd_6 HO4_6 HOd_6
  clear hbn cc
  clear cd0 cd1
  have HO6_7 := hid hOn
  have H6l := hid (show ∀ j, ((Value.slice x16 S.length y16).ownBlock = some j ∨ (Value.slice x26 F.length y26).ownBlock = some j) → V6.heap.size ≤ j from fun j h => by rcases h with h | h; exact (hOn.d.o1.lt j h).1; exact (hOn.d.o2.lt j h).1)
  have H66 := hid (show ∀ j, (Value.slice x66 0 y66).ownBlock = some j → V6.heap.size ≤ j from fun j h => (hOn.o6.lt j h).1)
  clear hOn
  have hbx : Below V7.heap.size V7 (V7.alloc (.cells #[.slice x16 S.length y16, .slice x26 F.length y26, .slice x66 0 y66, .int .i64 N] 32)) := (Below.refl _ _).alloc (Nat.le_refl _) _
  have HK6_8 := hid (heap_alloc_new V7 (.cells #[.slice x16 S.length y16, .slice x26 F.length y26, .slice x66 0 y66, .int .i64 N] 32))
  have hs8 : (V7.alloc (.cells #[.slice x16 S.length y16, .slice x26 F.length y26, .slice x66 0 y66, .int .i64 N] 32)).heap.size = V7.heap.size + 1 := by simp
  have HKa_8 := hid ((hbx.block _ (lt_heap HKa_7.out)).trans HKa_7.out)
  have HK4_8 := hid ((hbx.block _ (lt_heap HK4_7.out)).trans HK4_7.out)
  have HKd_8 := hid ((hbx.block _ (lt_heap HKd_7.out)).trans HKd_7.out)
  have HO4_8 := hid (HO4_7.out.stay hbx)
  have HOd_8 := hid (HOd_7.out.stay hbx)
  have HO6_8 := hid (HO6_7.out.stay hbx)
  have HB8 := hid (HB7.out.trans (hbx.mono HB7.out.size))
  have hz8 := hbx.size
  clear HKa_7 HK4_7 HKd_7 HO4_7 HOd_7 HO6_7
  clear hbx
  go_upto_region 8 with fail
  generalize (V7.alloc (.cells #[.slice x16 S.length y16, .slice x26 F.length y26, .slice x66 0 y66, .int .i64 N] 32)) = V8 at *
  have c60 : V8.cell? ⟨V7.heap.size, 0, none⟩ = some (.slice x16 S.length y16) := by rw [Lib.cell_of_heap HK6_8.out]; rfl
  have c61 : V8.cell? ⟨V7.heap.size, 1, none⟩ = some (.slice x26 F.length y26) := by rw [Lib.cell_of_heap HK6_8.out]; rfl
  have c62 : V8.cell? ⟨V7.heap.size, 2, none⟩ = some (.slice x66 0 y66) := by rw [Lib.cell_of_heap HK6_8.out]; rfl
  have c63 : V8.cell? ⟨V7.heap.size, 3, none⟩ = some (.int .i64 N) := by rw [Lib.cell_of_heap HK6_8.out]; rfl
  have c40 : V8.cell? ⟨V3.heap.size, 0, none⟩ = some (.slice x14 S.length y14) := by rw [Lib.cell_of_heap HK4_8.out]; rfl
  have c41 : V8.cell? ⟨V3.heap.size, 1, none⟩ = some (.slice x24 F.length y24) := by rw [Lib.cell_of_heap HK4_8.out]; rfl
  have c42 : V8.cell? ⟨V3.heap.size, 2, none⟩ = some (.slice x64 0 y64) := by rw [Lib.cell_of_heap HK4_8.out]; rfl
  have c43 : V8.cell? ⟨V3.heap.size, 3, none⟩ = some (.int .i64 N) := by rw [Lib.cell_of_heap HK4_8.out]; rfl
  go_wp2_with fail
  refine (eqService_same _ _ _ _ _ _ _ _ _ _ _ _ S F [] N V8 HO6_8.out.d.sl (sl_of_own HO6_8.out.o6) HO4_8.out.d.sl (sl_of_own HO4_8.out.o6) (Nat.le_trans l1 (by decide)) (Nat.le_trans l2 (by decide)) (by decide)).mono ?_
  rintro x V9 ⟨rfl, hb9⟩
  clear c60 c61 c62 c63 c40 c41 c42 c43
  have HKa_9 := hid ((hb9.block _ (lt_heap HKa_8.out)).trans HKa_8.out)
  have HK4_9 := hid ((hb9.block _ (lt_heap HK4_8.out)).trans HK4_8.out)
  have HKd_9 := hid ((hb9.block _ (lt_heap HKd_8.out)).trans HKd_8.out)
  have HK6_9 := hid ((hb9.block _ (lt_heap HK6_8.out)).trans HK6_8.out)
  have HO4_9 := hid (HO4_8.out.stay hb9)
  have HOd_9 := hid (HOd_8.out.stay hb9)
  have HO6_9 := hid (HO6_8.out.stay hb9)
  have HB9 := hid (HB8.out.trans (hb9.mono HB8.out.size))
  have hz9 := hb9.size
  clear HKa_8 HK4_8 HKd_8 HK6_8 HO4_8 HOd_8 HO6_8
  clear hb9
  have ca0 : V9.cell? ⟨w.heap.size, 0, none⟩ = some (.slice a1 ss.length k1) := by rw [Lib.cell_of_heap HKa_9.out]; rfl
  have ca1 : V9.cell? ⟨w.heap.size, 1, none⟩ = some (.slice a2 fs.length k2) := by rw [Lib.cell_of_heap HKa_9.out]; rfl
  have cd0 : V9.cell? ⟨V5.heap.size, 0, none⟩ = some (.slice d1 ss.length f1) := by rw [Lib.cell_of_heap HKd_9.out]; rfl
  have cd1 : V9.cell? ⟨V5.heap.size, 1, none⟩ = some (.slice d2 fs.length f2) := by rw [Lib.cell_of_heap HKd_9.out]; rfl
  have hlA : w.heap.size < V9.heap.size := lt_heap HKa_9.out
  have hlB : V5.heap.size < V9.heap.size := lt_heap HKd_9.out
  have hbR : Below V9.heap.size V9 V9.drew := (Below.refl _ _).drew
  go_wp2_with fail
  go_region_held3 (fun w' => w'.cell? ⟨w.heap.size, 0, none⟩ = some (.slice a1 ss.length k1) ∧ w'.cell? ⟨w.heap.size, 1, none⟩ = some (.slice a2 fs.length k2) ∧ w'.cell? ⟨V5.heap.size, 0, none⟩ = some (.slice d1 ss.length f1) ∧ w'.cell? ⟨V5.heap.size, 1, none⟩ = some (.slice d2 fs.length f2) ∧ Below V9.heap.size V9 w') (go_keep) (first | (go_at_call 6; refine (toDef_own a1 a2 k1 k2 ss fs _ ((HD.out.stay HB9.out).stay hbR) m1 m2).mono ?_; rintro x V10 ⟨i1, i2, j1, j2, rfl, hD10, hq10⟩; have hb10 := hbR.trans (hq10.mono hbR.size); have ka0_10 := (hb10.cell (p := ⟨w.heap.size, 0, none⟩) hlA).trans ca0; have ka1_10 := (hb10.cell (p := ⟨w.heap.size, 1, none⟩) hlA).trans ca1; have kd0_10 := (hb10.cell (p := ⟨V5.heap.size, 0, none⟩) hlB).trans cd0; have kd1_10 := (hb10.cell (p := ⟨V5.heap.size, 1, none⟩) hlB).trans cd1) | (go_at_call 9; refine (eqDef_same d1 d2 i1 i2 f1 f2 j1 j2 ss fs _ (HOd_9.out.stay hb10).sl.h1 (HOd_9.out.stay hb10).sl.h2 hD10.sl.h1 hD10.sl.h2 (Nat.le_trans m1 (by decide)) (Nat.le_trans m2 (by decide))).mono ?_; rintro x V11 ⟨rfl, hq11⟩; have hb11 := hb10.trans (hq11.mono hb10.size); have ka0_11 := (hb11.cell (p := ⟨w.heap.size, 0, none⟩) hlA).trans ca0; have ka1_11 := (hb11.cell (p := ⟨w.heap.size, 1, none⟩) hlA).trans ca1; have kd0_11 := (hb11.cell (p := ⟨V5.heap.size, 0, none⟩) hlB).trans cd0; have kd1_11 := (hb11.cell (p := ⟨V5.heap.size, 1, none⟩) hlB).trans cd1))
  have HKa_11 := hid ((hb11.block _ (lt_heap HKa_9.out)).trans HKa_9.out)
  have HK4_11 := hid ((hb11.block _ (lt_heap HK4_9.out)).trans HK4_9.out)
  have HKd_11 := hid ((hb11.block _ (lt_heap HKd_9.out)).trans HKd_9.out)
  have HK6_11 := hid ((hb11.block _ (lt_heap HK6_9.out)).trans HK6_9.out)
  have HO4_11 := hid (HO4_9.out.stay hb11)
  have HOd_11 := hid (HOd_9.out.stay hb11)
  have HO6_11 := hid (HO6_9.out.stay hb11)
  have HB11 := hid (HB9.out.trans (hb11.mono HB9.out.size))
  have hz11 := hb11.size
  clear HKa_9 HK4_9 HKd_9 HK6_9 HO4_9 HOd_9 HO6_9
  clear hlA hlB hbR hq10 hD10 hb10 hq11 hb11 ka0_10 ka0_11 ka1_10 ka1_11 kd0_10 kd0_11 kd1_10 kd1_11
  clear ca0 ca1 cd0 cd1
  have cd0 : V11.cell? ⟨V5.heap.size, 0, none⟩ = some (.slice d1 ss.length f1) := by rw [Lib.cell_of_heap HKd_11.out]; rfl
  have cd1 : V11.cell? ⟨V5.heap.size, 1, none⟩ = some (.slice d2 fs.length f2) := by rw [Lib.cell_of_heap HKd_11.out]; rfl
  go_wp2_with fail
  refine (markDef_own _ ss.length fs.length 1 _ _ _ _ _ HOd_11.out.o1 HOd_11.out.o2 (by decide) (by omega)).mono ?_
  rintro x V12 ⟨rfl, hc12⟩
  clear cd0 cd1
  have HKa_12 := hid ((hc12.block _ (lt_heap HKa_11.out) (fun h => h.elim (fun h => own_ne HOd_11.out.o1 HKa_11.out (by decide) _ h rfl) (fun h => own_ne HOd_11.out.o2 HKa_11.out (by decide) _ h rfl))).trans HKa_11.out)
  have HK4_12 := hid ((hc12.block _ (lt_heap HK4_11.out) (fun h => h.elim (fun h => own_ne HOd_11.out.o1 HK4_11.out (by decide) _ h rfl) (fun h => own_ne HOd_11.out.o2 HK4_11.out (by decide) _ h rfl))).trans HK4_11.out)
  have HK6_12 := hid ((hc12.block _ (lt_heap HK6_11.out) (fun h => h.elim (fun h => own_ne HOd_11.out.o1 HK6_11.out (by decide) _ h rfl) (fun h => own_ne HOd_11.out.o2 HK6_11.out (by decide) _ h rfl))).trans HK6_11.out)
  have HO4_12 := hid (HO4_11.out.chg hc12 (fun g hg h => by have := H4l.out g (.inl hg); have := Hdl.out g h; omega) (fun g hg h => by have := H4l.out g (.inr (.inl hg)); have := Hdl.out g h; omega) (fun g hg h => by have := H4l.out g (.inr (.inr hg)); have := Hdl.out g h; omega))
  have HO6_12 := hid (HO6_11.out.chg hc12 (fun g hg h => by have := H6l.out g (.inl hg); have := Hdl.out g h; omega) (fun g hg h => by have := H6l.out g (.inr hg); have := Hdl.out g h; omega) (fun g hg h => by have := H66.out g hg; have := Hdl.out g h; omega))
  have HB12 := hid (HB11.out.trans (hc12.below HB11.out.size (fun j h => by have := Hdl.out j h; have := HB4.out.size; omega)))
  have hz12 := hc12.size
  clear HKa_11 HK4_11 HKd_11 HK6_11 HO4_11 HOd_11 HO6_11 hc12
  have hK1 : 0 < (1 + (ss.length : Int) + 2 * (fs.length : Int)) := by omega
  generalize (1 + (ss.length : Int) + 2 * (fs.length : Int)) = K1 at *
  have hK1n : decide (K1 < 0) = false := by simp; omega
  have c60 : V12.cell? ⟨V7.heap.size, 0, none⟩ = some (.slice x16 S.length y16) := by rw [Lib.cell_of_heap HK6_12.out]; rfl
  have c61 : V12.cell? ⟨V7.heap.size, 1, none⟩ = some (.slice x26 F.length y26) := by rw [Lib.cell_of_heap HK6_12.out]; rfl
  have c62 : V12.cell? ⟨V7.heap.size, 2, none⟩ = some (.slice x66 0 y66) := by rw [Lib.cell_of_heap HK6_12.out]; rfl
  have c63 : V12.cell? ⟨V7.heap.size, 3, none⟩ = some (.int .i64 N) := by rw [Lib.cell_of_heap HK6_12.out]; rfl
  have c40 : V12.cell? ⟨V3.heap.size, 0, none⟩ = some (.slice x14 S.length y14) := by rw [Lib.cell_of_heap HK4_12.out]; rfl
  have c41 : V12.cell? ⟨V3.heap.size, 1, none⟩ = some (.slice x24 F.length y24) := by rw [Lib.cell_of_heap HK4_12.out]; rfl
  have c42 : V12.cell? ⟨V3.heap.size, 2, none⟩ = some (.slice x64 0 y64) := by rw [Lib.cell_of_heap HK4_12.out]; rfl
  have c43 : V12.cell? ⟨V3.heap.size, 3, none⟩ = some (.int .i64 N) := by rw [Lib.cell_of_heap HK4_12.out]; rfl
  go_wp2_with fail
  refine (eqService_same _ _ _ _ _ _ _ _ _ _ _ _ S F [] N V12 HO6_12.out.d.sl (sl_of_own HO6_12.out.o6) HO4_12.out.d.sl (sl_of_own HO4_12.out.o6) (Nat.le_trans l1 (by decide)) (Nat.le_trans l2 (by decide)) (by decide)).mono ?_
  rintro x V13 ⟨rfl, hb13⟩
  clear c60 c61 c62 c63 c40 c41 c42 c43
  have HKa_13 := hid ((hb13.block _ (lt_heap HKa_12.out)).trans HKa_12.out)
  have HK4_13 := hid ((hb13.block _ (lt_heap HK4_12.out)).trans HK4_12.out)
  have HK6_13 := hid ((hb13.block _ (lt_heap HK6_12.out)).trans HK6_12.out)
  have HO4_13 := hid (HO4_12.out.stay hb13)
  have HO6_13 := hid (HO6_12.out.stay hb13)
  have HB13 := hid (HB12.out.trans (hb13.mono HB12.out.size))
  have hz13 := hb13.size
  clear HKa_12 HK4_12 HK6_12 HO4_12 HO6_12
  clear hb13
  have c60 : V13.cell? ⟨V7.heap.size, 0, none⟩ = some (.slice x16 S.length y16) := by rw [Lib.cell_of_heap HK6_13.out]; rfl
  have c61 : V13.cell? ⟨V7.heap.size, 1, none⟩ = some (.slice x26 F.length y26) := by rw [Lib.cell_of_heap HK6_13.out]; rfl
  have c62 : V13.cell? ⟨V7.heap.size, 2, none⟩ = some (.slice x66 0 y66) := by rw [Lib.cell_of_heap HK6_13.out]; rfl
  have c63 : V13.cell? ⟨V7.heap.size, 3, none⟩ = some (.int .i64 N) := by rw [Lib.cell_of_heap HK6_13.out]; rfl
  go_wp2_with fail
  refine (markService_none _ S.length F.length 1 N _ _ _ _ _ _ _ _ _ HO6_13.out.d.o1 HO6_13.out.d.o2 (by decide) (by omega)).mono ?_
  rintro x V14 ⟨rfl, hM, hc14⟩
  clear c60 c61 c62 c63
  have HKa_14 := hid ((hc14.block _ (lt_heap HKa_13.out) (fun h => h.elim (fun h => own_ne HO6_13.out.d.o1 HKa_13.out (by decide) _ h rfl) (fun h => own_ne HO6_13.out.d.o2 HKa_13.out (by decide) _ h rfl))).trans HKa_13.out)
  have HK4_14 := hid ((hc14.block _ (lt_heap HK4_13.out) (fun h => h.elim (fun h => own_ne HO6_13.out.d.o1 HK4_13.out (by decide) _ h rfl) (fun h => own_ne HO6_13.out.d.o2 HK4_13.out (by decide) _ h rfl))).trans HK4_13.out)
  have HK6_14 := hid ((hc14.block _ (lt_heap HK6_13.out) (fun h => h.elim (fun h => own_ne HO6_13.out.d.o1 HK6_13.out (by decide) _ h rfl) (fun h => own_ne HO6_13.out.d.o2 HK6_13.out (by decide) _ h rfl))).trans HK6_13.out)
  have HO4_14 := hid (HO4_13.out.chg hc14 (fun g hg h => by have := H4l.out g (.inl hg); have := H6l.out g h; omega) (fun g hg h => by have := H4l.out g (.inr (.inl hg)); have := H6l.out g h; omega) (fun g hg h => by have := H4l.out g (.inr (.inr hg)); have := H6l.out g h; omega))
  have HB14 := hid (HB13.out.trans (hc14.below HB13.out.size (fun j h => by have := H6l.out j h; have := HB6.out.size; omega)))
  have hz14 := hc14.size
  have HM_14 := hid hM
  clear HKa_13 HK4_13 HK6_13 HO4_13 HO6_13 hc14 hM
  have c60 : V14.cell? ⟨V7.heap.size, 0, none⟩ = some (.slice x16 S.length y16) := by rw [Lib.cell_of_heap HK6_14.out]; rfl
  have c61 : V14.cell? ⟨V7.heap.size, 1, none⟩ = some (.slice x26 F.length y26) := by rw [Lib.cell_of_heap HK6_14.out]; rfl
  have c62 : V14.cell? ⟨V7.heap.size, 2, none⟩ = some (.slice x66 0 y66) := by rw [Lib.cell_of_heap HK6_14.out]; rfl
  have c63 : V14.cell? ⟨V7.heap.size, 3, none⟩ = some (.int .i64 N) := by rw [Lib.cell_of_heap HK6_14.out]; rfl
  go_wp2_with fail
  refine (heldService_none _ S.length F.length 1 N _ _ _ _ _ _ _ HM_14.out (by decide) (by omega)).mono ?_
  rintro x V15 ⟨rfl, hb15⟩
  clear c60 c61 c62 c63
  have HKa_15 := hid ((hb15.block _ (lt_heap HKa_14.out)).trans HKa_14.out)
  have HK4_15 := hid ((hb15.block _ (lt_heap HK4_14.out)).trans HK4_14.out)
  have HK6_15 := hid ((hb15.block _ (lt_heap HK6_14.out)).trans HK6_14.out)
  have HO4_15 := hid (HO4_14.out.stay hb15)
  have HB15 := hid (HB14.out.trans (hb15.mono HB14.out.size))
  have hz15 := hb15.size
  clear HKa_14 HK4_14 HK6_14 HO4_14
  have cH := hid (fun V (hV : Below V15.heap.size V15 V) => heldService_none _ S.length F.length 1 N _ _ x66 _ _ y66 V ((HM_14.out.stay hb15).stay hV) (by decide) (by omega))
  clear hb15 HM_14
  have hK3 : 0 < (1 + (S.length : Int) + 2 * (F.length : Int)) := by omega
  generalize (1 + (S.length : Int) + 2 * (F.length : Int)) = K3 at *
  have hK3n : decide (K3 < 0) = false := by simp; omega
  have hR15 := Below.refl V15.heap.size V15
  have ca0 : V15.cell? ⟨w.heap.size, 0, none⟩ = some (.slice a1 ss.length k1) := by rw [Lib.cell_of_heap HKa_15.out]; rfl
  have ca1 : V15.cell? ⟨w.heap.size, 1, none⟩ = some (.slice a2 fs.length k2) := by rw [Lib.cell_of_heap HKa_15.out]; rfl
  go_wp2_with fail
  refine (toDef_own a1 a2 k1 k2 ss fs _ (HD.out.stay HB15.out) m1 m2).mono ?_
  rintro x V16 ⟨p1, p2, q1, q2, rfl, hO16, hb16⟩
  clear ca0 ca1
  have HKa_16 := hid ((hb16.block _ (lt_heap HKa_15.out)).trans HKa_15.out)
  have HK4_16 := hid ((hb16.block _ (lt_heap HK4_15.out)).trans HK4_15.out)
  have HK6_16 := hid ((hb16.block _ (lt_heap HK6_15.out)).trans HK6_15.out)
  have HO4_16 := hid (HO4_15.out.stay hb16)
  have HB16 := hid (HB15.out.trans (hb16.mono HB15.out.size))
  have hz16 := hb16.size
  clear HKa_15 HK4_15 HK6_15 HO4_15
  have hR16 := hR15.trans (hb16.mono hR15.size)
  clear hR15 hb16
  have cc := hid (cIm.out p1 p2 q1 q2 V16 hO16.sl)
  go_wp2_with fail
  refine cc.out.mono ?_
  rintro x V17 ⟨x1p, x2p, x6p, y1p, y2p, y6p, rfl, hOn, hbn⟩
  have HKa_17 := hid ((hbn.block _ (lt_heap HKa_16.out)).trans HKa_16.out)
  have HK4_17 := hid ((hbn.block _ (lt_heap HK4_16.out)).trans HK4_16.out)
  have HK6_17 := hid ((hbn.block _ (lt_heap HK6_16.out)).trans HK6_16.out)
  have HO4_17 := hid (HO4_16.out.stay hbn)
  have HB17 := hid (HB16.out.trans (hbn.mono HB16.out.size))
  have hz17 := hbn.size
  clear HKa_16 HK4_16 HK6_16 HO4_16
  have hR17 := hR16.trans (hbn.mono hR16.size)
  clear hR16 hbn cc hO16
  have HOp_17 := hid hOn
  clear hOn
  have hR18 : Below V15.heap.size V15 (V17.alloc (.cells #[.slice x1p S.length y1p, .slice x2p F.length y2p, .slice x6p 0 y6p, .int .i64 N] 32)) := hR17.alloc hR17.size _
  have hbx : Below V17.heap.size V17 (V17.alloc (.cells #[.slice x1p S.length y1p, .slice x2p F.length y2p, .slice x6p 0 y6p, .int .i64 N] 32)) := (Below.refl _ _).alloc (Nat.le_refl _) _
  have HKp_18 := hid (heap_alloc_new V17 (.cells #[.slice x1p S.length y1p, .slice x2p F.length y2p, .slice x6p 0 y6p, .int .i64 N] 32))
  have hs18 : (V17.alloc (.cells #[.slice x1p S.length y1p, .slice x2p F.length y2p, .slice x6p 0 y6p, .int .i64 N] 32)).heap.size = V17.heap.size + 1 := by simp
  have HKa_18 := hid ((hbx.block _ (lt_heap HKa_17.out)).trans HKa_17.out)
  have HK4_18 := hid ((hbx.block _ (lt_heap HK4_17.out)).trans HK4_17.out)
  have HK6_18 := hid ((hbx.block _ (lt_heap HK6_17.out)).trans HK6_17.out)
  have HO4_18 := hid (HO4_17.out.stay hbx)
  have HOp_18 := hid (HOp_17.out.stay hbx)
  have HB18 := hid (HB17.out.trans (hbx.mono HB17.out.size))
  have hz18 := hbx.size
  clear HKa_17 HK4_17 HK6_17 HO4_17 HOp_17
  clear hbx
  go_upto_region 25 with fail
  generalize (V17.alloc (.cells #[.slice x1p S.length y1p, .slice x2p F.length y2p, .slice x6p 0 y6p, .int .i64 N] 32)) = V18 at *
  have cp0 : V18.cell? ⟨V17.heap.size, 0, none⟩ = some (.slice x1p S.length y1p) := by rw [Lib.cell_of_heap HKp_18.out]; rfl
  have cp1 : V18.cell? ⟨V17.heap.size, 1, none⟩ = some (.slice x2p F.length y2p) := by rw [Lib.cell_of_heap HKp_18.out]; rfl
  have cp2 : V18.cell? ⟨V17.heap.size, 2, none⟩ = some (.slice x6p 0 y6p) := by rw [Lib.cell_of_heap HKp_18.out]; rfl
  have cp3 : V18.cell? ⟨V17.heap.size, 3, none⟩ = some (.int .i64 N) := by rw [Lib.cell_of_heap HKp_18.out]; rfl
  have c40 : V18.cell? ⟨V3.heap.size, 0, none⟩ = some (.slice x14 S.length y14) := by rw [Lib.cell_of_heap HK4_18.out]; rfl
  have c41 : V18.cell? ⟨V3.heap.size, 1, none⟩ = some (.slice x24 F.length y24) := by rw [Lib.cell_of_heap HK4_18.out]; rfl
  have c42 : V18.cell? ⟨V3.heap.size, 2, none⟩ = some (.slice x64 0 y64) := by rw [Lib.cell_of_heap HK4_18.out]; rfl
  have c43 : V18.cell? ⟨V3.heap.size, 3, none⟩ = some (.int .i64 N) := by rw [Lib.cell_of_heap HK4_18.out]; rfl
  go_wp2_with fail
  refine (eqService_same _ _ _ _ _ _ _ _ _ _ _ _ S F [] N V18 HOp_18.out.d.sl (sl_of_own HOp_18.out.o6) HO4_18.out.d.sl (sl_of_own HO4_18.out.o6) (Nat.le_trans l1 (by decide)) (Nat.le_trans l2 (by decide)) (by decide)).mono ?_
  rintro x V19 ⟨rfl, hb19⟩
  clear cp0 cp1 cp2 cp3 c40 c41 c42 c43
  have hR19 := hR18.trans (hb19.mono hR18.size)
  have HKa_19 := hid ((hb19.block _ (lt_heap HKa_18.out)).trans HKa_18.out)
  have HK4_19 := hid ((hb19.block _ (lt_heap HK4_18.out)).trans HK4_18.out)
  have HK6_19 := hid ((hb19.block _ (lt_heap HK6_18.out)).trans HK6_18.out)
  have HKp_19 := hid ((hb19.block _ (lt_heap HKp_18.out)).trans HKp_18.out)
  have HO4_19 := hid (HO4_18.out.stay hb19)
  have HOp_19 := hid (HOp_18.out.stay hb19)
  have HB19 := hid (HB18.out.trans (hb19.mono HB18.out.size))
  have hz19 := hb19.size
  clear HKa_18 HK4_18 HK6_18 HKp_18 HO4_18 HOp_18
  clear hb19
  have c60 : V19.cell? ⟨V7.heap.size, 0, none⟩ = some (.slice x16 S.length y16) := by rw [Lib.cell_of_heap HK6_19.out]; rfl
  have c61 : V19.cell? ⟨V7.heap.size, 1, none⟩ = some (.slice x26 F.length y26) := by rw [Lib.cell_of_heap HK6_19.out]; rfl
  have c62 : V19.cell? ⟨V7.heap.size, 2, none⟩ = some (.slice x66 0 y66) := by rw [Lib.cell_of_heap HK6_19.out]; rfl
  have c63 : V19.cell? ⟨V7.heap.size, 3, none⟩ = some (.int .i64 N) := by rw [Lib.cell_of_heap HK6_19.out]; rfl
  go_wp2_with fail
  refine (cH.out _ hR19).mono ?_
  rintro x V20 ⟨rfl, hb20⟩
  have HB20 := hid (HB19.out.trans (hb20.mono HB19.out.size))
  clear c60 c61 c62 c63
  go_wp2_with fail
  go_ret
  exact ⟨rfl, HB20.out⟩
end Go.Proofs.Ytadidjhcgmeadaa
