/-
 The law FnExactCleanup, walked: it answers true. (Made by mkinlaw.py.)
-/
import Derived.Test.YtookchpdbilbcaaGreatDoorZClM5
import Derived.Test.YtookchpdbilbcaaGreatDoorZSoFix3
import Derived.Test.YtookchpdbilbcaaGreatDoorZHdE4
import Derived.Deep.RegionHeld3
import Derived.Deep.CutRange
set_option maxRecDepth 100000
set_option maxHeartbeats 8000000
namespace Go.Proofs.YtookchpdbilbcaaGreatDoor
open Go.RowKit Go.Sort
theorem fnExactCleanup_walk (a1 a2 a6 : Option Addr) (k1 k2 k6 : Nat) (ss : List ByteArray) (fs : List Pr) (es : List Ev) (nx t : Int) (e0 e1 e2 e3 e4 : Addr) (w : World) (hD : DefSl w a1 a2 k1 k2 ss fs) (hE : EvSl w (.slice a6 es.length k6) es) (F1 : FitS ss) (F2 : FitP fs) (FE : Fit es) (n1 : ss.length ≤ maxLen) (n2 : fs.length ≤ maxLen) (n6 : es.length ≤ maxLen) (hEr : ErrsAt w e0 e1 e2 e3 e4) :
  Calls Tryz.prog 4 #[svV a1 a2 a6 k1 k2 k6 ss fs es nx, .int .i64 t] w fun x w' => x = .returned (.bool true) ∧ Below w.heap.size w w' := by
 have hb0 : Below w.heap.size w (w.alloc (.cells #[.slice a1 ss.length k1, .slice a2 fs.length k2, .slice a6 es.length k6, .int .i64 nx] 28)) := (bR _ _).alloc nL _
 have HKa_0 := hid (heap_alloc_new w (.cells #[.slice a1 ss.length k1, .slice a2 fs.length k2, .slice a6 es.length k6, .int .i64 nx] 28))
 have hs0 : (w.alloc (.cells #[.slice a1 ss.length k1, .slice a2 fs.length k2, .slice a6 es.length k6, .int .i64 nx] 28)).heap.size = w.heap.size + 1 := by simp
 have HB0 := hid hb0
 have HD := hid hD
 have HE := hid hE
 have HER := hid hEr
 have cz1 := hid (ZEf a1 a2 a6 k1 k2 k6 ss fs es nx (w.alloc (.cells #[.slice a1 ss.length k1, .slice a2 fs.length k2, .slice a6 es.length k6, .int .i64 nx] 28)) (hD.stay hb0) (hE.stay hb0 nL) F1 F2 FE n1 n2 n6)
 have cSp := hid (fun (p1 p2 p6 : Option Addr) (q1 q2 q6 : Nat) V (h1 : DefSl V p1 p2 q1 q2 ss fs) (h2 : EvSl V (.slice p6 es.length q6) es) => (ZCe p1 p2 p6 q1 q2 q6 ss fs es nx t V h1 h2 F1 FE n1 n2 n6).mono (fun x w' h => (ZD9 h).fix))
 have cIm := hid (fun (p1 p2 p6 : Option Addr) (q1 q2 q6 : Nat) V (hV : Below w.heap.size w V) (h1 : DefSl V p1 p2 q1 q2 ss fs) (h2 : EvSl V (.slice p6 es.length q6) es) => (ZCl p1 p2 p6 q1 q2 q6 ss fs es nx t V e0 e1 e2 e3 e4 h1 h2 (hEr.stay hV) F1 F2 FE n1 n2 n6).mono (fun x w' h => h.fix))
 have hEL := clR_len ss fs es nx t
 have hSL := reS_len (clR ss fs es nx t) ss
 have hFL := reF_len (clR ss fs es nx t) fs
 generalize clR ss fs es nx t = R at *
 obtain ⟨C, M, E, N⟩ := R
 dsimp only at hEL hSL hFL cSp cIm
 generalize reS (C, M, E, N) ss = S at *
 generalize reF (C, M, E, N) fs = F at *
 clear hD hE hb0 F1 F2 FE n1 n2 n6 hEr
 go_enter Tryz.func4, Tryz.ntmps4
 go_wp2_with fail
 refine cz1.out.mono ?_
 generalize (w.alloc (.cells #[.slice a1 ss.length k1, .slice a2 fs.length k2, .slice a6 es.length k6, .int .i64 nx] 28)) = V0 at *
 rintro x V1 ⟨r1, rfl, hr1, hb1⟩
 have HKa_1 := hid ((hb1.block _ (ZAA HKa_0.out)).trans HKa_0.out)
 have HB1 := hid (HB0.out.trans (hb1.mono HB0.out.size))
 have hz1 := hb1.size
 clear HKa_0
 clear hb1 cz1
 rcases hr1 with rfl | ⟨r10, r11, m1, m2, m6⟩
 ·go_wp2_with fail
  go_ret
  exact ⟨rfl, HB1.out⟩
 have ca0 : V1.cell? ⟨w.heap.size, 0, none⟩ = some (.slice a1 ss.length k1) := ce HKa_1.out rfl
 have ca1 : V1.cell? ⟨w.heap.size, 1, none⟩ = some (.slice a2 fs.length k2) := ce HKa_1.out rfl
 have ca2 : V1.cell? ⟨w.heap.size, 2, none⟩ = some (.slice a6 es.length k6) := ce HKa_1.out rfl
 have ca3 : V1.cell? ⟨w.heap.size, 3, none⟩ = some (.int .i64 nx) := ce HKa_1.out rfl
 go_wp2_with fail
 refine (ZAs a1 a2 a6 k1 k2 k6 ss fs es nx _ (HD.out.stay HB1.out) (HE.out.stay HB1.out nL) m1 m2 m6).mono ?_
 rintro x V2 ⟨p1, p2, p6, q1, q2, q6, rfl, hOt, hb2⟩
 clear ca0 ca1 ca2 ca3
 have HKa_2 := hid ((hb2.block _ (ZAA HKa_1.out)).trans HKa_1.out)
 have HB2 := hid (HB1.out.trans (hb2.mono HB1.out.size))
 have hz2 := hb2.size
 clear HKa_1
 have cc := hid (cSp.out p1 p2 p6 q1 q2 q6 V2 hOt.d.sl (ZAi hOt.o6))
 clear hOt hb2
 go_wp2_with fail
 refine cc.out.mono ?_
 rintro x V3 ⟨x14, x24, x64, y14, y24, y64, rfl, hOn, hbn⟩
 have HKa_3 := hid ((hbn.block _ (ZAA HKa_2.out)).trans HKa_2.out)
 have HB3 := hid (HB2.out.trans (hbn.mono HB2.out.size))
 have hz3 := hbn.size
 clear HKa_2
 clear cc cSp hbn
 have HO4_3 := hid hOn
 have H4l := hid (fun j h => hOn.lt j h)
 clear hOn
 have hbx : Below V3.heap.size V3 (V3.alloc (.cells #[.slice x14 S.length y14, .slice x24 F.length y24, .slice x64 E.length y64, .int .i64 N, .int .i64 (M : Int), .int .i64 C] 38)) := (bR _ _).alloc nL _
 have HK4_4 := hid (heap_alloc_new V3 (.cells #[.slice x14 S.length y14, .slice x24 F.length y24, .slice x64 E.length y64, .int .i64 N, .int .i64 (M : Int), .int .i64 C] 38))
 have hs4 : (V3.alloc (.cells #[.slice x14 S.length y14, .slice x24 F.length y24, .slice x64 E.length y64, .int .i64 N, .int .i64 (M : Int), .int .i64 C] 38)).heap.size = V3.heap.size + 1 := by simp
 have HKa_4 := hid ((hbx.block _ (ZAA HKa_3.out)).trans HKa_3.out)
 have HO4_4 := hid (HO4_3.out.stay hbx)
 have HB4 := hid (HB3.out.trans (hbx.mono HB3.out.size))
 have hz4 := hbx.size
 clear HKa_3 HO4_3
 clear hbx
 go_upto_region 6 with fail
 generalize (V3.alloc (.cells #[.slice x14 S.length y14, .slice x24 F.length y24, .slice x64 E.length y64, .int .i64 N, .int .i64 (M : Int), .int .i64 C] 38)) = V4 at *
 have ca0 : V4.cell? ⟨w.heap.size, 0, none⟩ = some (.slice a1 ss.length k1) := ce HKa_4.out rfl
 have ca1 : V4.cell? ⟨w.heap.size, 1, none⟩ = some (.slice a2 fs.length k2) := ce HKa_4.out rfl
 have ca2 : V4.cell? ⟨w.heap.size, 2, none⟩ = some (.slice a6 es.length k6) := ce HKa_4.out rfl
 have ca3 : V4.cell? ⟨w.heap.size, 3, none⟩ = some (.int .i64 nx) := ce HKa_4.out rfl
 go_wp2_with fail
 refine (ZAs a1 a2 a6 k1 k2 k6 ss fs es nx _ (HD.out.stay HB4.out) (HE.out.stay HB4.out nL) m1 m2 m6).mono ?_
 rintro x V5 ⟨d1, d2, d6, f1, f2, f6, rfl, hOt, hb5⟩
 clear ca0 ca1 ca2 ca3
 have HKa_5 := hid ((hb5.block _ (ZAA HKa_4.out)).trans HKa_4.out)
 have HK4_5 := hid ((hb5.block _ (ZAA HK4_4.out)).trans HK4_4.out)
 have HO4_5 := hid (HO4_4.out.stay hb5)
 have HB5 := hid (HB4.out.trans (hb5.mono HB4.out.size))
 have hz5 := hb5.size
 clear HKa_4 HK4_4 HO4_4
 have HOd_5 := hid (SvL.of_own hOt)
 have Hdl := hid (fun j h => (SvL.of_own hOt).lt j h)
 clear hOt hb5
 have hbx : Below V5.heap.size V5 (V5.alloc (.cells #[.slice d1 ss.length f1, .slice d2 fs.length f2, .slice d6 es.length f6, .int .i64 nx] 36)) := (bR _ _).alloc nL _
 have HKd_6 := hid (heap_alloc_new V5 (.cells #[.slice d1 ss.length f1, .slice d2 fs.length f2, .slice d6 es.length f6, .int .i64 nx] 36))
 have hs6 : (V5.alloc (.cells #[.slice d1 ss.length f1, .slice d2 fs.length f2, .slice d6 es.length f6, .int .i64 nx] 36)).heap.size = V5.heap.size + 1 := by simp
 have HKa_6 := hid ((hbx.block _ (ZAA HKa_5.out)).trans HKa_5.out)
 have HK4_6 := hid ((hbx.block _ (ZAA HK4_5.out)).trans HK4_5.out)
 have HO4_6 := hid (HO4_5.out.stay hbx)
 have HOd_6 := hid (HOd_5.out.stay hbx)
 have HB6 := hid (HB5.out.trans (hbx.mono HB5.out.size))
 have hz6 := hbx.size
 clear HKa_5 HK4_5 HO4_5 HOd_5
 clear hbx
 go_upto_region 7 with fail
 generalize (V5.alloc (.cells #[.slice d1 ss.length f1, .slice d2 fs.length f2, .slice d6 es.length f6, .int .i64 nx] 36)) = V6 at *
 have cd0 : V6.cell? ⟨V5.heap.size, 0, none⟩ = some (.slice d1 ss.length f1) := ce HKd_6.out rfl
 have cd1 : V6.cell? ⟨V5.heap.size, 1, none⟩ = some (.slice d2 fs.length f2) := ce HKd_6.out rfl
 have cd2 : V6.cell? ⟨V5.heap.size, 2, none⟩ = some (.slice d6 es.length f6) := ce HKd_6.out rfl
 have cd3 : V6.cell? ⟨V5.heap.size, 3, none⟩ = some (.int .i64 nx) := ce HKd_6.out rfl
 have cc := hid (cIm.out d1 d2 d6 f1 f2 f6 V6 HB6.out HOd_6.out.d.sl HOd_6.out.e.sl)
 go_wp2_with fail
 refine cc.out.mono ?_
 rintro x V7 ⟨x16, x26, x66, y16, y26, y66, rfl, hOn, hbn⟩
 clear cd0 cd1 cd2 cd3
 have HKa_7 := hid ((hbn.block _ (ZAA HKa_6.out)).trans HKa_6.out)
 have HK4_7 := hid ((hbn.block _ (ZAA HK4_6.out)).trans HK4_6.out)
 have HKd_7 := hid ((hbn.block _ (ZAA HKd_6.out)).trans HKd_6.out)
 have HO4_7 := hid (HO4_6.out.stay hbn)
 have HOd_7 := hid (HOd_6.out.stay hbn)
 have HB7 := hid (HB6.out.trans (hbn.mono HB6.out.size))
 have hz7 := hbn.size
 clear HKa_6 HK4_6 HKd_6 HO4_6 HOd_6
 clear cc hbn
 have HO6_7 := hid hOn
 have H6l := hid (fun j h => hOn.lt j h)
 clear hOn
 have hbx : Below V7.heap.size V7 (V7.alloc (.cells #[.slice x16 S.length y16, .slice x26 F.length y26, .slice x66 E.length y66, .int .i64 N, .int .i64 (M : Int), .int .i64 C] 38)) := (bR _ _).alloc nL _
 have HK6_8 := hid (heap_alloc_new V7 (.cells #[.slice x16 S.length y16, .slice x26 F.length y26, .slice x66 E.length y66, .int .i64 N, .int .i64 (M : Int), .int .i64 C] 38))
 have hs8 : (V7.alloc (.cells #[.slice x16 S.length y16, .slice x26 F.length y26, .slice x66 E.length y66, .int .i64 N, .int .i64 (M : Int), .int .i64 C] 38)).heap.size = V7.heap.size + 1 := by simp
 have HKa_8 := hid ((hbx.block _ (ZAA HKa_7.out)).trans HKa_7.out)
 have HK4_8 := hid ((hbx.block _ (ZAA HK4_7.out)).trans HK4_7.out)
 have HKd_8 := hid ((hbx.block _ (ZAA HKd_7.out)).trans HKd_7.out)
 have HO4_8 := hid (HO4_7.out.stay hbx)
 have HOd_8 := hid (HOd_7.out.stay hbx)
 have HO6_8 := hid (HO6_7.out.stay hbx)
 have HB8 := hid (HB7.out.trans (hbx.mono HB7.out.size))
 have hz8 := hbx.size
 clear HKa_7 HK4_7 HKd_7 HO4_7 HOd_7 HO6_7
 clear hbx
 go_upto_region 8 with fail
 generalize (V7.alloc (.cells #[.slice x16 S.length y16, .slice x26 F.length y26, .slice x66 E.length y66, .int .i64 N, .int .i64 (M : Int), .int .i64 C] 38)) = V8 at *
 have c60 : V8.cell? ⟨V7.heap.size, 0, none⟩ = some (.slice x16 S.length y16) := ce HK6_8.out rfl
 have c61 : V8.cell? ⟨V7.heap.size, 1, none⟩ = some (.slice x26 F.length y26) := ce HK6_8.out rfl
 have c62 : V8.cell? ⟨V7.heap.size, 2, none⟩ = some (.slice x66 E.length y66) := ce HK6_8.out rfl
 have c63 : V8.cell? ⟨V7.heap.size, 3, none⟩ = some (.int .i64 N) := ce HK6_8.out rfl
 have c64 : V8.cell? ⟨V7.heap.size, 4, none⟩ = some (.int .i64 (M : Int)) := ce HK6_8.out rfl
 have c65 : V8.cell? ⟨V7.heap.size, 5, none⟩ = some (.int .i64 C) := ce HK6_8.out rfl
 have c40 : V8.cell? ⟨V3.heap.size, 0, none⟩ = some (.slice x14 S.length y14) := ce HK4_8.out rfl
 have c41 : V8.cell? ⟨V3.heap.size, 1, none⟩ = some (.slice x24 F.length y24) := ce HK4_8.out rfl
 have c42 : V8.cell? ⟨V3.heap.size, 2, none⟩ = some (.slice x64 E.length y64) := ce HK4_8.out rfl
 have c43 : V8.cell? ⟨V3.heap.size, 3, none⟩ = some (.int .i64 N) := ce HK4_8.out rfl
 have c44 : V8.cell? ⟨V3.heap.size, 4, none⟩ = some (.int .i64 (M : Int)) := ce HK4_8.out rfl
 have c45 : V8.cell? ⟨V3.heap.size, 5, none⟩ = some (.int .i64 C) := ce HK4_8.out rfl
 go_wp2_with fail
 refine (ZAk _ _ _ _ _ _ _ _ _ _ _ _ S F E N (M : Int) C V8 HO6_8.out.d.sl HO6_8.out.e.sl HO4_8.out.d.sl HO4_8.out.e.sl (Nat.le_trans hSL (Nat.le_trans m1 (by decide))) (Nat.le_trans hFL (Nat.le_trans m2 (by decide))) (Nat.le_trans hEL (by decide))).mono ?_
 rintro x V12 ⟨rfl, hb12⟩
 clear c60 c61 c62 c63 c64 c65 c40 c41 c42 c43 c44 c45
 have HKa_12 := hid ((hb12.block _ (ZAA HKa_8.out)).trans HKa_8.out)
 have HK4_12 := hid ((hb12.block _ (ZAA HK4_8.out)).trans HK4_8.out)
 have HKd_12 := hid ((hb12.block _ (ZAA HKd_8.out)).trans HKd_8.out)
 have HK6_12 := hid ((hb12.block _ (ZAA HK6_8.out)).trans HK6_8.out)
 have HO4_12 := hid (HO4_8.out.stay hb12)
 have HOd_12 := hid (HOd_8.out.stay hb12)
 have HO6_12 := hid (HO6_8.out.stay hb12)
 have HB12 := hid (HB8.out.trans (hb12.mono HB8.out.size))
 have hz12 := hb12.size
 clear HKa_8 HK4_8 HKd_8 HK6_8 HO4_8 HOd_8 HO6_8
 clear hb12
 have ca0 : V12.cell? ⟨w.heap.size, 0, none⟩ = some (.slice a1 ss.length k1) := ce HKa_12.out rfl
 have ca1 : V12.cell? ⟨w.heap.size, 1, none⟩ = some (.slice a2 fs.length k2) := ce HKa_12.out rfl
 have ca2 : V12.cell? ⟨w.heap.size, 2, none⟩ = some (.slice a6 es.length k6) := ce HKa_12.out rfl
 have ca3 : V12.cell? ⟨w.heap.size, 3, none⟩ = some (.int .i64 nx) := ce HKa_12.out rfl
 have cd0 : V12.cell? ⟨V5.heap.size, 0, none⟩ = some (.slice d1 ss.length f1) := ce HKd_12.out rfl
 have cd1 : V12.cell? ⟨V5.heap.size, 1, none⟩ = some (.slice d2 fs.length f2) := ce HKd_12.out rfl
 have cd2 : V12.cell? ⟨V5.heap.size, 2, none⟩ = some (.slice d6 es.length f6) := ce HKd_12.out rfl
 have cd3 : V12.cell? ⟨V5.heap.size, 3, none⟩ = some (.int .i64 nx) := ce HKd_12.out rfl
 have hlA : w.heap.size < V12.heap.size := ZAA HKa_12.out
 have hlB : V5.heap.size < V12.heap.size := ZAA HKd_12.out
 have hbR : Below V12.heap.size V12 V12.drew := (bR _ _).drew
 go_wp2_with fail
 go_region_held3 (fun w' => w'.cell? ⟨w.heap.size, 0, none⟩ = some (.slice a1 ss.length k1) ∧ w'.cell? ⟨w.heap.size, 1, none⟩ = some (.slice a2 fs.length k2) ∧ w'.cell? ⟨w.heap.size, 2, none⟩ = some (.slice a6 es.length k6) ∧ w'.cell? ⟨w.heap.size, 3, none⟩ = some (.int .i64 nx) ∧ w'.cell? ⟨V5.heap.size, 0, none⟩ = some (.slice d1 ss.length f1) ∧ w'.cell? ⟨V5.heap.size, 1, none⟩ = some (.slice d2 fs.length f2) ∧ w'.cell? ⟨V5.heap.size, 2, none⟩ = some (.slice d6 es.length f6) ∧ w'.cell? ⟨V5.heap.size, 3, none⟩ = some (.int .i64 nx) ∧ Below V12.heap.size V12 w') (go_keep) (first | (go_at_call 8; refine (ZAs a1 a2 a6 k1 k2 k6 ss fs es nx _ ((HD.out.stay HB12.out).stay hbR) ((HE.out.stay HB12.out nL).stay hbR nL) m1 m2 m6).mono ?_; rintro x V13 ⟨i1, i2, i6, j1, j2, j6, rfl, hD13, hq13⟩; have hb13 := hbR.trans (hq13.mono hbR.size); have ka0_13 := (hb13.cell (p := ⟨w.heap.size, 0, none⟩) hlA).trans ca0; have ka1_13 := (hb13.cell (p := ⟨w.heap.size, 1, none⟩) hlA).trans ca1; have ka2_13 := (hb13.cell (p := ⟨w.heap.size, 2, none⟩) hlA).trans ca2; have ka3_13 := (hb13.cell (p := ⟨w.heap.size, 3, none⟩) hlA).trans ca3; have kd0_13 := (hb13.cell (p := ⟨V5.heap.size, 0, none⟩) hlB).trans cd0; have kd1_13 := (hb13.cell (p := ⟨V5.heap.size, 1, none⟩) hlB).trans cd1; have kd2_13 := (hb13.cell (p := ⟨V5.heap.size, 2, none⟩) hlB).trans cd2; have kd3_13 := (hb13.cell (p := ⟨V5.heap.size, 3, none⟩) hlB).trans cd3) | (go_at_call 12; refine (ZBd d1 d2 d6 i1 i2 i6 f1 f2 f6 j1 j2 j6 ss fs es nx _ (HOd_12.out.stay hb13).d.sl (HOd_12.out.stay hb13).e.sl hD13.d.sl (ZAi hD13.o6) (Nat.le_trans m1 (by decide)) (Nat.le_trans m2 (by decide)) (Nat.le_trans m6 (by decide))).mono ?_; rintro x V14 ⟨rfl, hq14⟩; have hb14 := hb13.trans (hq14.mono hb13.size); have ka0_14 := (hb14.cell (p := ⟨w.heap.size, 0, none⟩) hlA).trans ca0; have ka1_14 := (hb14.cell (p := ⟨w.heap.size, 1, none⟩) hlA).trans ca1; have ka2_14 := (hb14.cell (p := ⟨w.heap.size, 2, none⟩) hlA).trans ca2; have ka3_14 := (hb14.cell (p := ⟨w.heap.size, 3, none⟩) hlA).trans ca3; have kd0_14 := (hb14.cell (p := ⟨V5.heap.size, 0, none⟩) hlB).trans cd0; have kd1_14 := (hb14.cell (p := ⟨V5.heap.size, 1, none⟩) hlB).trans cd1; have kd2_14 := (hb14.cell (p := ⟨V5.heap.size, 2, none⟩) hlB).trans cd2; have kd3_14 := (hb14.cell (p := ⟨V5.heap.size, 3, none⟩) hlB).trans cd3))
 have HKa_14 := hid ((hb14.block _ (ZAA HKa_12.out)).trans HKa_12.out)
 have HK4_14 := hid ((hb14.block _ (ZAA HK4_12.out)).trans HK4_12.out)
 have HKd_14 := hid ((hb14.block _ (ZAA HKd_12.out)).trans HKd_12.out)
 have HK6_14 := hid ((hb14.block _ (ZAA HK6_12.out)).trans HK6_12.out)
 have HO4_14 := hid (HO4_12.out.stay hb14)
 have HOd_14 := hid (HOd_12.out.stay hb14)
 have HO6_14 := hid (HO6_12.out.stay hb14)
 have HB14 := hid (HB12.out.trans (hb14.mono HB12.out.size))
 have hz14 := hb14.size
 clear HKa_12 HK4_12 HKd_12 HK6_12 HO4_12 HOd_12 HO6_12
 clear hlA hlB hbR hq13 hD13 hb13 hq14 hb14 ka0_13 ka0_14 ka1_13 ka1_14 ka2_13 ka2_14 ka3_13 ka3_14 kd0_13 kd0_14 kd1_13 kd1_14 kd2_13 kd2_14 kd3_13 kd3_14
 clear ca0 ca1 ca2 ca3 cd0 cd1 cd2 cd3
 have cd0 : V14.cell? ⟨V5.heap.size, 0, none⟩ = some (.slice d1 ss.length f1) := ce HKd_14.out rfl
 have cd1 : V14.cell? ⟨V5.heap.size, 1, none⟩ = some (.slice d2 fs.length f2) := ce HKd_14.out rfl
 have cd2 : V14.cell? ⟨V5.heap.size, 2, none⟩ = some (.slice d6 es.length f6) := ce HKd_14.out rfl
 have cd3 : V14.cell? ⟨V5.heap.size, 3, none⟩ = some (.int .i64 nx) := ce HKd_14.out rfl
 go_wp2_with fail
 refine (ZBf _ ss.length fs.length es.length 1 nx _ _ _ _ _ _ _ _ _ _ HOd_14.out.d.o1 HOd_14.out.d.o2 HOd_14.out.e (by decide) (by omega)).mono ?_
 rintro x V17 ⟨rfl, _, hc17⟩
 clear cd0 cd1 cd2 cd3
 have HKa_17 := hid ((hc17.block _ (ZAA HKa_14.out) (HOd_14.out.ne HKa_14.out (by decide))).trans HKa_14.out)
 have HK4_17 := hid ((hc17.block _ (ZAA HK4_14.out) (HOd_14.out.ne HK4_14.out (by decide))).trans HK4_14.out)
 have HK6_17 := hid ((hc17.block _ (ZAA HK6_14.out) (HOd_14.out.ne HK6_14.out (by decide))).trans HK6_14.out)
 have HO4_17 := hid (HO4_14.out.chg hc17 (fun g h h9 => by have := H4l.out g h; have := Hdl.out g h9; omega))
 have HO6_17 := hid (HO6_14.out.chg hc17 (fun g h h9 => by have := H6l.out g h; have := Hdl.out g h9; omega))
 have HB17 := hid (HB14.out.trans (hc17.below HB14.out.size (fun j h => by have := Hdl.out j h; have := HB4.out.size; omega)))
 have hz17 := hc17.size
 clear HKa_14 HK4_14 HKd_14 HK6_14 HO4_14 HOd_14 HO6_14 hc17
 have hK1 : 0 < (1 + (ss.length : Int) + 2 * (fs.length : Int) + 6 * (es.length : Int)) := by omega
 have hK1m : (1 + (ss.length : Int) + 2 * (fs.length : Int) + 6 * (es.length : Int)) ≤ 100000000 := by omega
 generalize (1 + (ss.length : Int) + 2 * (fs.length : Int) + 6 * (es.length : Int)) = K1 at *
 have hKn : decide (K1 < 0) = false := by simp; omega
 have c60 : V17.cell? ⟨V7.heap.size, 0, none⟩ = some (.slice x16 S.length y16) := ce HK6_17.out rfl
 have c61 : V17.cell? ⟨V7.heap.size, 1, none⟩ = some (.slice x26 F.length y26) := ce HK6_17.out rfl
 have c62 : V17.cell? ⟨V7.heap.size, 2, none⟩ = some (.slice x66 E.length y66) := ce HK6_17.out rfl
 have c63 : V17.cell? ⟨V7.heap.size, 3, none⟩ = some (.int .i64 N) := ce HK6_17.out rfl
 have c64 : V17.cell? ⟨V7.heap.size, 4, none⟩ = some (.int .i64 (M : Int)) := ce HK6_17.out rfl
 have c65 : V17.cell? ⟨V7.heap.size, 5, none⟩ = some (.int .i64 C) := ce HK6_17.out rfl
 have c40 : V17.cell? ⟨V3.heap.size, 0, none⟩ = some (.slice x14 S.length y14) := ce HK4_17.out rfl
 have c41 : V17.cell? ⟨V3.heap.size, 1, none⟩ = some (.slice x24 F.length y24) := ce HK4_17.out rfl
 have c42 : V17.cell? ⟨V3.heap.size, 2, none⟩ = some (.slice x64 E.length y64) := ce HK4_17.out rfl
 have c43 : V17.cell? ⟨V3.heap.size, 3, none⟩ = some (.int .i64 N) := ce HK4_17.out rfl
 have c44 : V17.cell? ⟨V3.heap.size, 4, none⟩ = some (.int .i64 (M : Int)) := ce HK4_17.out rfl
 have c45 : V17.cell? ⟨V3.heap.size, 5, none⟩ = some (.int .i64 C) := ce HK4_17.out rfl
 go_wp2_with fail
 refine (ZAk _ _ _ _ _ _ _ _ _ _ _ _ S F E N (M : Int) C V17 HO6_17.out.d.sl HO6_17.out.e.sl HO4_17.out.d.sl HO4_17.out.e.sl (Nat.le_trans hSL (Nat.le_trans m1 (by decide))) (Nat.le_trans hFL (Nat.le_trans m2 (by decide))) (Nat.le_trans hEL (by decide))).mono ?_
 rintro x V19 ⟨rfl, hb19⟩
 clear c60 c61 c62 c63 c64 c65 c40 c41 c42 c43 c44 c45
 have HKa_19 := hid ((hb19.block _ (ZAA HKa_17.out)).trans HKa_17.out)
 have HK4_19 := hid ((hb19.block _ (ZAA HK4_17.out)).trans HK4_17.out)
 have HK6_19 := hid ((hb19.block _ (ZAA HK6_17.out)).trans HK6_17.out)
 have HO4_19 := hid (HO4_17.out.stay hb19)
 have HO6_19 := hid (HO6_17.out.stay hb19)
 have HB19 := hid (HB17.out.trans (hb19.mono HB17.out.size))
 have hz19 := hb19.size
 clear HKa_17 HK4_17 HK6_17 HO4_17 HO6_17
 clear hb19
 have c60 : V19.cell? ⟨V7.heap.size, 0, none⟩ = some (.slice x16 S.length y16) := ce HK6_19.out rfl
 have c61 : V19.cell? ⟨V7.heap.size, 1, none⟩ = some (.slice x26 F.length y26) := ce HK6_19.out rfl
 have c62 : V19.cell? ⟨V7.heap.size, 2, none⟩ = some (.slice x66 E.length y66) := ce HK6_19.out rfl
 have c63 : V19.cell? ⟨V7.heap.size, 3, none⟩ = some (.int .i64 N) := ce HK6_19.out rfl
 have c64 : V19.cell? ⟨V7.heap.size, 4, none⟩ = some (.int .i64 (M : Int)) := ce HK6_19.out rfl
 have c65 : V19.cell? ⟨V7.heap.size, 5, none⟩ = some (.int .i64 C) := ce HK6_19.out rfl
 go_wp2_with fail
 refine (ZB6 _ S.length F.length E.length 1 N (M : Int) C _ _ _ _ _ _ _ _ _ _ HO6_19.out.d.o1 HO6_19.out.d.o2 HO6_19.out.e (by decide) (by omega)).mono ?_
 rintro x V20 ⟨rfl, hM, hc20⟩
 clear c60 c61 c62 c63 c64 c65
 have HKa_20 := hid ((hc20.block _ (ZAA HKa_19.out) (HO6_19.out.ne HKa_19.out (by decide))).trans HKa_19.out)
 have HK4_20 := hid ((hc20.block _ (ZAA HK4_19.out) (HO6_19.out.ne HK4_19.out (by decide))).trans HK4_19.out)
 have HK6_20 := hid ((hc20.block _ (ZAA HK6_19.out) (HO6_19.out.ne HK6_19.out (by decide))).trans HK6_19.out)
 have HO4_20 := hid (HO4_19.out.chg hc20 (fun g h h9 => by have := H4l.out g h; have := H6l.out g h9; omega))
 have HB20 := hid (HB19.out.trans (hc20.below HB19.out.size (fun j h => by have := H6l.out j h; have := HB6.out.size; omega)))
 have hz20 := hc20.size
 have HM_20 := hid hM
 clear HKa_19 HK4_19 HK6_19 HO4_19 HO6_19 hc20 hM
 have c60 : V20.cell? ⟨V7.heap.size, 0, none⟩ = some (.slice x16 S.length y16) := ce HK6_20.out rfl
 have c61 : V20.cell? ⟨V7.heap.size, 1, none⟩ = some (.slice x26 F.length y26) := ce HK6_20.out rfl
 have c62 : V20.cell? ⟨V7.heap.size, 2, none⟩ = some (.slice x66 E.length y66) := ce HK6_20.out rfl
 have c63 : V20.cell? ⟨V7.heap.size, 3, none⟩ = some (.int .i64 N) := ce HK6_20.out rfl
 have c64 : V20.cell? ⟨V7.heap.size, 4, none⟩ = some (.int .i64 (M : Int)) := ce HK6_20.out rfl
 have c65 : V20.cell? ⟨V7.heap.size, 5, none⟩ = some (.int .i64 C) := ce HK6_20.out rfl
 go_wp2_with fail
 refine (ZBF _ S.length F.length E.length 1 N (M : Int) C _ _ _ _ _ _ _ HM_20.out (by decide) (by omega)).mono ?_
 rintro x V21 ⟨rfl, hb21⟩
 clear c60 c61 c62 c63 c64 c65
 have HKa_21 := hid ((hb21.block _ (ZAA HKa_20.out)).trans HKa_20.out)
 have HK4_21 := hid ((hb21.block _ (ZAA HK4_20.out)).trans HK4_20.out)
 have HK6_21 := hid ((hb21.block _ (ZAA HK6_20.out)).trans HK6_20.out)
 have HO4_21 := hid (HO4_20.out.stay hb21)
 have HB21 := hid (HB20.out.trans (hb21.mono HB20.out.size))
 have hz21 := hb21.size
 clear HKa_20 HK4_20 HK6_20 HO4_20
 have cH := hid (fun V (hV : Below V21.heap.size V21 V) => ZBF _ S.length F.length E.length 1 N (M : Int) C _ _ x66 _ _ y66 V ((HM_20.out.stay hb21).stay hV) (by decide) (by omega))
 clear hb21 HM_20
 have hK3 : 0 < (1 + (S.length : Int) + 2 * (F.length : Int) + 6 * (E.length : Int)) := by omega
 generalize (1 + (S.length : Int) + 2 * (F.length : Int) + 6 * (E.length : Int)) = K3 at *
 have hK3n : decide (K3 < 0) = false := by simp; omega
 have hR21 := Below.refl V21.heap.size V21
 have ca0 : V21.cell? ⟨w.heap.size, 0, none⟩ = some (.slice a1 ss.length k1) := ce HKa_21.out rfl
 have ca1 : V21.cell? ⟨w.heap.size, 1, none⟩ = some (.slice a2 fs.length k2) := ce HKa_21.out rfl
 have ca2 : V21.cell? ⟨w.heap.size, 2, none⟩ = some (.slice a6 es.length k6) := ce HKa_21.out rfl
 have ca3 : V21.cell? ⟨w.heap.size, 3, none⟩ = some (.int .i64 nx) := ce HKa_21.out rfl
 go_wp2_with fail
 refine (ZAs a1 a2 a6 k1 k2 k6 ss fs es nx _ (HD.out.stay HB21.out) (HE.out.stay HB21.out nL) m1 m2 m6).mono ?_
 rintro x V22 ⟨p1, p2, p6, q1, q2, q6, rfl, hOt, hb22⟩
 clear ca0 ca1 ca2 ca3
 have HKa_22 := hid ((hb22.block _ (ZAA HKa_21.out)).trans HKa_21.out)
 have HK4_22 := hid ((hb22.block _ (ZAA HK4_21.out)).trans HK4_21.out)
 have HK6_22 := hid ((hb22.block _ (ZAA HK6_21.out)).trans HK6_21.out)
 have HO4_22 := hid (HO4_21.out.stay hb22)
 have HB22 := hid (HB21.out.trans (hb22.mono HB21.out.size))
 have hz22 := hb22.size
 clear HKa_21 HK4_21 HK6_21 HO4_21
 have hO22 := hid hOt
 have hR22 := hR21.trans (hb22.mono hR21.size)
 clear hOt hb22 hR21
 have cc := hid (cIm.out p1 p2 p6 q1 q2 q6 V22 HB22.out hO22.out.d.sl (ZAi hO22.out.o6))
 go_wp2_with fail
 refine cc.out.mono ?_
 rintro x V24 ⟨x1p, x2p, x6p, y1p, y2p, y6p, rfl, hOn, hbn⟩
 have HKa_24 := hid ((hbn.block _ (ZAA HKa_22.out)).trans HKa_22.out)
 have HK4_24 := hid ((hbn.block _ (ZAA HK4_22.out)).trans HK4_22.out)
 have HK6_24 := hid ((hbn.block _ (ZAA HK6_22.out)).trans HK6_22.out)
 have HO4_24 := hid (HO4_22.out.stay hbn)
 have HB24 := hid (HB22.out.trans (hbn.mono HB22.out.size))
 have hz24 := hbn.size
 clear HKa_22 HK4_22 HK6_22 HO4_22
 have hR24 := hR22.trans (hbn.mono hR22.size)
 clear cc hbn hO22 hR22
 have HOp_24 := hid hOn
 clear hOn
 have hR25 : Below V21.heap.size V21 (V24.alloc (.cells #[.slice x1p S.length y1p, .slice x2p F.length y2p, .slice x6p E.length y6p, .int .i64 N, .int .i64 (M : Int), .int .i64 C] 38)) := hR24.alloc hR24.size _
 have hbx : Below V24.heap.size V24 (V24.alloc (.cells #[.slice x1p S.length y1p, .slice x2p F.length y2p, .slice x6p E.length y6p, .int .i64 N, .int .i64 (M : Int), .int .i64 C] 38)) := (bR _ _).alloc nL _
 have HKp_25 := hid (heap_alloc_new V24 (.cells #[.slice x1p S.length y1p, .slice x2p F.length y2p, .slice x6p E.length y6p, .int .i64 N, .int .i64 (M : Int), .int .i64 C] 38))
 have hs25 : (V24.alloc (.cells #[.slice x1p S.length y1p, .slice x2p F.length y2p, .slice x6p E.length y6p, .int .i64 N, .int .i64 (M : Int), .int .i64 C] 38)).heap.size = V24.heap.size + 1 := by simp
 have HKa_25 := hid ((hbx.block _ (ZAA HKa_24.out)).trans HKa_24.out)
 have HK4_25 := hid ((hbx.block _ (ZAA HK4_24.out)).trans HK4_24.out)
 have HK6_25 := hid ((hbx.block _ (ZAA HK6_24.out)).trans HK6_24.out)
 have HO4_25 := hid (HO4_24.out.stay hbx)
 have HOp_25 := hid (HOp_24.out.stay hbx)
 have HB25 := hid (HB24.out.trans (hbx.mono HB24.out.size))
 have hz25 := hbx.size
 clear HKa_24 HK4_24 HK6_24 HO4_24 HOp_24
 clear hbx
 go_upto_region 25 with fail
 generalize (V24.alloc (.cells #[.slice x1p S.length y1p, .slice x2p F.length y2p, .slice x6p E.length y6p, .int .i64 N, .int .i64 (M : Int), .int .i64 C] 38)) = V25 at *
 have cp0 : V25.cell? ⟨V24.heap.size, 0, none⟩ = some (.slice x1p S.length y1p) := ce HKp_25.out rfl
 have cp1 : V25.cell? ⟨V24.heap.size, 1, none⟩ = some (.slice x2p F.length y2p) := ce HKp_25.out rfl
 have cp2 : V25.cell? ⟨V24.heap.size, 2, none⟩ = some (.slice x6p E.length y6p) := ce HKp_25.out rfl
 have cp3 : V25.cell? ⟨V24.heap.size, 3, none⟩ = some (.int .i64 N) := ce HKp_25.out rfl
 have cp4 : V25.cell? ⟨V24.heap.size, 4, none⟩ = some (.int .i64 (M : Int)) := ce HKp_25.out rfl
 have cp5 : V25.cell? ⟨V24.heap.size, 5, none⟩ = some (.int .i64 C) := ce HKp_25.out rfl
 have c40 : V25.cell? ⟨V3.heap.size, 0, none⟩ = some (.slice x14 S.length y14) := ce HK4_25.out rfl
 have c41 : V25.cell? ⟨V3.heap.size, 1, none⟩ = some (.slice x24 F.length y24) := ce HK4_25.out rfl
 have c42 : V25.cell? ⟨V3.heap.size, 2, none⟩ = some (.slice x64 E.length y64) := ce HK4_25.out rfl
 have c43 : V25.cell? ⟨V3.heap.size, 3, none⟩ = some (.int .i64 N) := ce HK4_25.out rfl
 have c44 : V25.cell? ⟨V3.heap.size, 4, none⟩ = some (.int .i64 (M : Int)) := ce HK4_25.out rfl
 have c45 : V25.cell? ⟨V3.heap.size, 5, none⟩ = some (.int .i64 C) := ce HK4_25.out rfl
 go_wp2_with fail
 refine (ZAk _ _ _ _ _ _ _ _ _ _ _ _ S F E N (M : Int) C V25 HOp_25.out.d.sl HOp_25.out.e.sl HO4_25.out.d.sl HO4_25.out.e.sl (Nat.le_trans hSL (Nat.le_trans m1 (by decide))) (Nat.le_trans hFL (Nat.le_trans m2 (by decide))) (Nat.le_trans hEL (by decide))).mono ?_
 rintro x V26 ⟨rfl, hb26⟩
 clear cp0 cp1 cp2 cp3 cp4 cp5 c40 c41 c42 c43 c44 c45
 have HKa_26 := hid ((hb26.block _ (ZAA HKa_25.out)).trans HKa_25.out)
 have HK4_26 := hid ((hb26.block _ (ZAA HK4_25.out)).trans HK4_25.out)
 have HK6_26 := hid ((hb26.block _ (ZAA HK6_25.out)).trans HK6_25.out)
 have HKp_26 := hid ((hb26.block _ (ZAA HKp_25.out)).trans HKp_25.out)
 have HO4_26 := hid (HO4_25.out.stay hb26)
 have HOp_26 := hid (HOp_25.out.stay hb26)
 have HB26 := hid (HB25.out.trans (hb26.mono HB25.out.size))
 have hz26 := hb26.size
 clear HKa_25 HK4_25 HK6_25 HKp_25 HO4_25 HOp_25
 have hR26 := hR25.trans (hb26.mono hR25.size)
 clear hb26
 have c60 : V26.cell? ⟨V7.heap.size, 0, none⟩ = some (.slice x16 S.length y16) := ce HK6_26.out rfl
 have c61 : V26.cell? ⟨V7.heap.size, 1, none⟩ = some (.slice x26 F.length y26) := ce HK6_26.out rfl
 have c62 : V26.cell? ⟨V7.heap.size, 2, none⟩ = some (.slice x66 E.length y66) := ce HK6_26.out rfl
 have c63 : V26.cell? ⟨V7.heap.size, 3, none⟩ = some (.int .i64 N) := ce HK6_26.out rfl
 have c64 : V26.cell? ⟨V7.heap.size, 4, none⟩ = some (.int .i64 (M : Int)) := ce HK6_26.out rfl
 have c65 : V26.cell? ⟨V7.heap.size, 5, none⟩ = some (.int .i64 C) := ce HK6_26.out rfl
 go_wp2_with fail
 refine (cH.out _ hR26).mono ?_
 rintro x V27 ⟨rfl, hb27⟩
 have HB27 := hid (HB26.out.trans (hb27.mono HB26.out.size))
 clear c60 c61 c62 c63 c64 c65
 go_wp2_with fail
 go_ret
 exact ⟨rfl, HB27.out⟩
end Go.Proofs.YtookchpdbilbcaaGreatDoor
