/-
 The law FnExactIngest, walked: it answers true. (Made by mkinlaw.py.)
-/
import Derived.Test.YtookchpdbilbcaaGreatDoorZSpIn22
import Derived.Test.YtookchpdbilbcaaGreatDoorZSoFix3
import Derived.Test.YtookchpdbilbcaaGreatDoorZHdE4
import Derived.Deep.RegionHeld3
import Derived.Deep.CutRange
set_option maxRecDepth 100000
set_option maxHeartbeats 8000000
namespace Go.Proofs.YtookchpdbilbcaaGreatDoor
open Go.RowKit Go.Sort
theorem fnExactIngest_walk (a1 a2 a6 a7 : Option Addr) (k1 k2 k6 k7 : Nat) (ss : List ByteArray) (fs : List Pr) (es l : List Ev) (nx : Int) (e0 e1 e2 e3 e4 : Addr) (w : World) (hD : DefSl w a1 a2 k1 k2 ss fs) (hE : EvSl w (.slice a6 es.length k6) es) (hL : EvSl w (.slice a7 l.length k7) l) (F1 : FitS ss) (F2 : FitP fs) (FE : Fit es) (FL : Fit l) (WL : ∀ i, (h : i < l.length) → (Lit.int .i64 l[i].run).wf = true) (n1 : ss.length ≤ maxLen) (n2 : fs.length ≤ maxLen) (n6 : es.length ≤ maxLen) (n7 : l.length ≤ maxLen) (hEr : ErrsAt w e0 e1 e2 e3 e4) :
  Calls Tryz.prog 3 #[svV a1 a2 a6 k1 k2 k6 ss fs es nx, .slice a7 l.length k7] w fun x w' => x = .returned (.bool true) ∧ Below w.heap.size w w' := by
 have hb0 : Below w.heap.size w (w.alloc (.cells #[.slice a1 ss.length k1, .slice a2 fs.length k2, .slice a6 es.length k6, .int .i64 nx] 28)) := (Below.refl _ _).alloc (Nat.le_refl _) _
 have HKa_0 := hid (heap_alloc_new w (.cells #[.slice a1 ss.length k1, .slice a2 fs.length k2, .slice a6 es.length k6, .int .i64 nx] 28))
 have hs0 : (w.alloc (.cells #[.slice a1 ss.length k1, .slice a2 fs.length k2, .slice a6 es.length k6, .int .i64 nx] 28)).heap.size = w.heap.size + 1 := by simp
 have HB0 := hid hb0
 have HD := hid hD
 have HE := hid hE
 have HL := hid hL
 have HER := hid hEr
 have cz1 := hid (szService_any a1 a2 a6 k1 k2 k6 ss fs es nx (w.alloc (.cells #[.slice a1 ss.length k1, .slice a2 fs.length k2, .slice a6 es.length k6, .int .i64 nx] 28)) (hD.stay hb0) (hE.stay hb0 (Nat.le_refl _)) F1 F2 FE n1 n2 n6)
 have cz2 := hid (fun (r : Int) V (hV : Below w.heap.size w V) (h0 : 0 ≤ r) (h1 : r ≤ 1048576) => szEventS_all (.slice a7 l.length k7) l r V (hL.stay hV (Nat.le_refl _)) FL h0 h1 n7)
 have cSp := hid (fun (p1 p2 p6 p7 : Option Addr) (q1 q2 q6 q7 : Nat) V (h1 : DefSl V p1 p2 q1 q2 ss fs) (h2 : EvSl V (.slice p6 es.length q6) es) (h3 : EvSl V (.slice p7 l.length q7) l) => (specIngest_any p1 p2 p6 p7 q1 q2 q6 q7 ss fs es l nx V h1 h2 h3 F1 FE FL n1 n2 n6 n7).mono (fun x w' h => (im_of_in h).fix))
 have cIm := hid (fun (p1 p2 p6 p7 : Option Addr) (q1 q2 q6 q7 : Nat) V (hV : Below w.heap.size w V) (h1 : DefSl V p1 p2 q1 q2 ss fs) (h2 : EvSl V (.slice p6 es.length q6) es) (h3 : EvSl V (.slice p7 l.length q7) l) => (implIngest_any p1 p2 p6 p7 q1 q2 q6 q7 ss fs es l nx V e0 e1 e2 e3 e4 h1 h2 h3 (hEr.stay hV) F1 F2 FE FL WL n1 n2 n6 n7).mono (fun x w' h => h.fix))
 have hEL := inR_len ss fs es nx l
 have hSL := reS_len (inR ss fs es nx l) ss
 have hFL := reF_len (inR ss fs es nx l) fs
 generalize inR ss fs es nx l = R at *
 obtain ⟨C, M, E, N⟩ := R
 dsimp only at hEL hSL hFL cSp cIm
 generalize reS (C, M, E, N) ss = S at *
 generalize reF (C, M, E, N) fs = F at *
 clear hD hE hb0 F1 F2 FE n1 n2 n6 hEr hL FL WL n7
 go_enter Tryz.func3, Tryz.ntmps3
 go_wp2_with fail
 refine cz1.out.mono ?_
 generalize (w.alloc (.cells #[.slice a1 ss.length k1, .slice a2 fs.length k2, .slice a6 es.length k6, .int .i64 nx] 28)) = V0 at *
 rintro x V1 ⟨r1, rfl, hr1, hb1⟩
 have HKa_1 := hid ((hb1.block _ (lt_heap HKa_0.out)).trans HKa_0.out)
 have HB1 := hid (HB0.out.trans (hb1.mono HB0.out.size))
 have hz1 := hb1.size
 clear HKa_0
 clear hb1 cz1
 rcases hr1 with rfl | ⟨r10, r11, m1, m2, m6⟩
 ·go_wp2_with fail
  go_ret
  exact ⟨rfl, HB1.out⟩
 have r10b : (r1 < 0) = False := by simp; omega
 go_wp2_with fail
 refine (cz2.out r1 V1 HB1.out r10 r11).mono ?_
 rintro x V2 ⟨rfl, hb2⟩
 have HKa_2 := hid ((hb2.block _ (lt_heap HKa_1.out)).trans HKa_1.out)
 have HB2 := hid (HB1.out.trans (hb2.mono HB1.out.size))
 have hz2 := hb2.size
 clear HKa_1
 clear hb2 cz2
 rcases szR_two l r10 with hr2 | ⟨r20, r21⟩
 ·rw [hr2]
  go_wp2_with fail
  go_ret
  exact ⟨rfl, HB2.out⟩
 have m7 : l.length ≤ 1048576 := by omega
 generalize szR r1 l = r2 at *
 have r20b : (r2 < 0) = False := by simp; omega
 have ca0 : V2.cell? ⟨w.heap.size, 0, none⟩ = some (.slice a1 ss.length k1) := ce HKa_2.out rfl
 have ca1 : V2.cell? ⟨w.heap.size, 1, none⟩ = some (.slice a2 fs.length k2) := ce HKa_2.out rfl
 have ca2 : V2.cell? ⟨w.heap.size, 2, none⟩ = some (.slice a6 es.length k6) := ce HKa_2.out rfl
 have ca3 : V2.cell? ⟨w.heap.size, 3, none⟩ = some (.int .i64 nx) := ce HKa_2.out rfl
 go_wp2_with fail
 refine (toService_any a1 a2 a6 k1 k2 k6 ss fs es nx _ (HD.out.stay HB2.out) (HE.out.stay HB2.out (Nat.le_refl _)) m1 m2 m6).mono ?_
 rintro x V3 ⟨p1, p2, p6, q1, q2, q6, rfl, hOt, hb3⟩
 clear ca0 ca1 ca2 ca3
 have HKa_3 := hid ((hb3.block _ (lt_heap HKa_2.out)).trans HKa_2.out)
 have HB3 := hid (HB2.out.trans (hb3.mono HB2.out.size))
 have hz3 := hb3.size
 clear HKa_2
 have hO3 := hid hOt
 clear hOt hb3
 go_wp2_with fail
 refine (toEventS_any _ l _ (HL.out.stay HB3.out (Nat.le_refl _)) m7).mono ?_
 rintro x V4 ⟨v4, rfl, hXt, hb4⟩
 have HKa_4 := hid ((hb4.block _ (lt_heap HKa_3.out)).trans HKa_3.out)
 have HB4 := hid (HB3.out.trans (hb4.mono HB3.out.size))
 have hz4 := hb4.size
 clear HKa_3
 obtain ⟨p7, q7, rfl⟩ := ownB_form hXt
 have cc := hid (cSp.out p1 p2 p6 p7 q1 q2 q6 q7 V4 (hO3.out.stay hb4).d.sl (sl_of_own (hO3.out.stay hb4).o6) (sl_of_own hXt))
 clear hXt hb4
 go_wp2_with fail
 refine cc.out.mono ?_
 rintro x V5 ⟨x14, x24, x64, y14, y24, y64, rfl, hOn, hbn⟩
 have HKa_5 := hid ((hbn.block _ (lt_heap HKa_4.out)).trans HKa_4.out)
 have HB5 := hid (HB4.out.trans (hbn.mono HB4.out.size))
 have hz5 := hbn.size
 clear HKa_4
 clear cc hO3 cSp hbn
 have HO4_5 := hid hOn
 have H4l := hid (fun j h => hOn.lt j h)
 clear hOn
 have hbx : Below V5.heap.size V5 (V5.alloc (.cells #[.slice x14 S.length y14, .slice x24 F.length y24, .slice x64 E.length y64, .int .i64 N, .int .i64 (M : Int), .int .i64 C] 38)) := (Below.refl _ _).alloc (Nat.le_refl _) _
 have HK4_6 := hid (heap_alloc_new V5 (.cells #[.slice x14 S.length y14, .slice x24 F.length y24, .slice x64 E.length y64, .int .i64 N, .int .i64 (M : Int), .int .i64 C] 38))
 have hs6 : (V5.alloc (.cells #[.slice x14 S.length y14, .slice x24 F.length y24, .slice x64 E.length y64, .int .i64 N, .int .i64 (M : Int), .int .i64 C] 38)).heap.size = V5.heap.size + 1 := by simp
 have HKa_6 := hid ((hbx.block _ (lt_heap HKa_5.out)).trans HKa_5.out)
 have HO4_6 := hid (HO4_5.out.stay hbx)
 have HB6 := hid (HB5.out.trans (hbx.mono HB5.out.size))
 have hz6 := hbx.size
 clear HKa_5 HO4_5
 clear hbx
 go_upto_region 9 with fail
 generalize (V5.alloc (.cells #[.slice x14 S.length y14, .slice x24 F.length y24, .slice x64 E.length y64, .int .i64 N, .int .i64 (M : Int), .int .i64 C] 38)) = V6 at *
 have ca0 : V6.cell? ⟨w.heap.size, 0, none⟩ = some (.slice a1 ss.length k1) := ce HKa_6.out rfl
 have ca1 : V6.cell? ⟨w.heap.size, 1, none⟩ = some (.slice a2 fs.length k2) := ce HKa_6.out rfl
 have ca2 : V6.cell? ⟨w.heap.size, 2, none⟩ = some (.slice a6 es.length k6) := ce HKa_6.out rfl
 have ca3 : V6.cell? ⟨w.heap.size, 3, none⟩ = some (.int .i64 nx) := ce HKa_6.out rfl
 go_wp2_with fail
 refine (toService_any a1 a2 a6 k1 k2 k6 ss fs es nx _ (HD.out.stay HB6.out) (HE.out.stay HB6.out (Nat.le_refl _)) m1 m2 m6).mono ?_
 rintro x V7 ⟨d1, d2, d6, f1, f2, f6, rfl, hOt, hb7⟩
 clear ca0 ca1 ca2 ca3
 have HKa_7 := hid ((hb7.block _ (lt_heap HKa_6.out)).trans HKa_6.out)
 have HK4_7 := hid ((hb7.block _ (lt_heap HK4_6.out)).trans HK4_6.out)
 have HO4_7 := hid (HO4_6.out.stay hb7)
 have HB7 := hid (HB6.out.trans (hb7.mono HB6.out.size))
 have hz7 := hb7.size
 clear HKa_6 HK4_6 HO4_6
 have HOd_7 := hid (SvL.of_own hOt)
 have Hdl := hid (fun j h => (SvL.of_own hOt).lt j h)
 clear hOt hb7
 have hbx : Below V7.heap.size V7 (V7.alloc (.cells #[.slice d1 ss.length f1, .slice d2 fs.length f2, .slice d6 es.length f6, .int .i64 nx] 36)) := (Below.refl _ _).alloc (Nat.le_refl _) _
 have HKd_8 := hid (heap_alloc_new V7 (.cells #[.slice d1 ss.length f1, .slice d2 fs.length f2, .slice d6 es.length f6, .int .i64 nx] 36))
 have hs8 : (V7.alloc (.cells #[.slice d1 ss.length f1, .slice d2 fs.length f2, .slice d6 es.length f6, .int .i64 nx] 36)).heap.size = V7.heap.size + 1 := by simp
 have HKa_8 := hid ((hbx.block _ (lt_heap HKa_7.out)).trans HKa_7.out)
 have HK4_8 := hid ((hbx.block _ (lt_heap HK4_7.out)).trans HK4_7.out)
 have HO4_8 := hid (HO4_7.out.stay hbx)
 have HOd_8 := hid (HOd_7.out.stay hbx)
 have HB8 := hid (HB7.out.trans (hbx.mono HB7.out.size))
 have hz8 := hbx.size
 clear HKa_7 HK4_7 HO4_7 HOd_7
 clear hbx
 go_upto_region 10 with fail
 generalize (V7.alloc (.cells #[.slice d1 ss.length f1, .slice d2 fs.length f2, .slice d6 es.length f6, .int .i64 nx] 36)) = V8 at *
 go_wp2_with fail
 refine (toEventS_any _ l _ (HL.out.stay HB8.out (Nat.le_refl _)) m7).mono ?_
 rintro x V9 ⟨vx, rfl, hXt, hb9⟩
 have HKa_9 := hid ((hb9.block _ (lt_heap HKa_8.out)).trans HKa_8.out)
 have HK4_9 := hid ((hb9.block _ (lt_heap HK4_8.out)).trans HK4_8.out)
 have HKd_9 := hid ((hb9.block _ (lt_heap HKd_8.out)).trans HKd_8.out)
 have HO4_9 := hid (HO4_8.out.stay hb9)
 have HOd_9 := hid (HOd_8.out.stay hb9)
 have HB9 := hid (HB8.out.trans (hb9.mono HB8.out.size))
 have hz9 := hb9.size
 clear HKa_8 HK4_8 HKd_8 HO4_8 HOd_8
 obtain ⟨xa, xc, rfl⟩ := ownB_form hXt
 have HXx_9 := hid hXt
 have Hxl := hid (fun j h => hXt.lt j h)
 clear hXt hb9
 have cd0 : V9.cell? ⟨V7.heap.size, 0, none⟩ = some (.slice d1 ss.length f1) := ce HKd_9.out rfl
 have cd1 : V9.cell? ⟨V7.heap.size, 1, none⟩ = some (.slice d2 fs.length f2) := ce HKd_9.out rfl
 have cd2 : V9.cell? ⟨V7.heap.size, 2, none⟩ = some (.slice d6 es.length f6) := ce HKd_9.out rfl
 have cd3 : V9.cell? ⟨V7.heap.size, 3, none⟩ = some (.int .i64 nx) := ce HKd_9.out rfl
 have cc := hid (cIm.out d1 d2 d6 xa f1 f2 f6 xc V9 HB9.out HOd_9.out.d.sl HOd_9.out.e.sl (sl_of_own HXx_9.out))
 go_wp2_with fail
 refine cc.out.mono ?_
 rintro x V10 ⟨x16, x26, x66, y16, y26, y66, rfl, hOn, hbn⟩
 clear cd0 cd1 cd2 cd3
 have HKa_10 := hid ((hbn.block _ (lt_heap HKa_9.out)).trans HKa_9.out)
 have HK4_10 := hid ((hbn.block _ (lt_heap HK4_9.out)).trans HK4_9.out)
 have HKd_10 := hid ((hbn.block _ (lt_heap HKd_9.out)).trans HKd_9.out)
 have HO4_10 := hid (HO4_9.out.stay hbn)
 have HOd_10 := hid (HOd_9.out.stay hbn)
 have HXx_10 := hid (ownB_stay HXx_9.out hbn)
 have HB10 := hid (HB9.out.trans (hbn.mono HB9.out.size))
 have hz10 := hbn.size
 clear HKa_9 HK4_9 HKd_9 HO4_9 HOd_9 HXx_9
 clear cc hbn
 have HO6_10 := hid hOn
 have H6l := hid (fun j h => hOn.lt j h)
 clear hOn
 have hbx : Below V10.heap.size V10 (V10.alloc (.cells #[.slice x16 S.length y16, .slice x26 F.length y26, .slice x66 E.length y66, .int .i64 N, .int .i64 (M : Int), .int .i64 C] 38)) := (Below.refl _ _).alloc (Nat.le_refl _) _
 have HK6_11 := hid (heap_alloc_new V10 (.cells #[.slice x16 S.length y16, .slice x26 F.length y26, .slice x66 E.length y66, .int .i64 N, .int .i64 (M : Int), .int .i64 C] 38))
 have hs11 : (V10.alloc (.cells #[.slice x16 S.length y16, .slice x26 F.length y26, .slice x66 E.length y66, .int .i64 N, .int .i64 (M : Int), .int .i64 C] 38)).heap.size = V10.heap.size + 1 := by simp
 have HKa_11 := hid ((hbx.block _ (lt_heap HKa_10.out)).trans HKa_10.out)
 have HK4_11 := hid ((hbx.block _ (lt_heap HK4_10.out)).trans HK4_10.out)
 have HKd_11 := hid ((hbx.block _ (lt_heap HKd_10.out)).trans HKd_10.out)
 have HO4_11 := hid (HO4_10.out.stay hbx)
 have HOd_11 := hid (HOd_10.out.stay hbx)
 have HO6_11 := hid (HO6_10.out.stay hbx)
 have HXx_11 := hid (ownB_stay HXx_10.out hbx)
 have HB11 := hid (HB10.out.trans (hbx.mono HB10.out.size))
 have hz11 := hbx.size
 clear HKa_10 HK4_10 HKd_10 HO4_10 HOd_10 HO6_10 HXx_10
 clear hbx
 go_upto_region 12 with fail
 generalize (V10.alloc (.cells #[.slice x16 S.length y16, .slice x26 F.length y26, .slice x66 E.length y66, .int .i64 N, .int .i64 (M : Int), .int .i64 C] 38)) = V11 at *
 have c60 : V11.cell? ⟨V10.heap.size, 0, none⟩ = some (.slice x16 S.length y16) := ce HK6_11.out rfl
 have c61 : V11.cell? ⟨V10.heap.size, 1, none⟩ = some (.slice x26 F.length y26) := ce HK6_11.out rfl
 have c62 : V11.cell? ⟨V10.heap.size, 2, none⟩ = some (.slice x66 E.length y66) := ce HK6_11.out rfl
 have c63 : V11.cell? ⟨V10.heap.size, 3, none⟩ = some (.int .i64 N) := ce HK6_11.out rfl
 have c64 : V11.cell? ⟨V10.heap.size, 4, none⟩ = some (.int .i64 (M : Int)) := ce HK6_11.out rfl
 have c65 : V11.cell? ⟨V10.heap.size, 5, none⟩ = some (.int .i64 C) := ce HK6_11.out rfl
 have c40 : V11.cell? ⟨V5.heap.size, 0, none⟩ = some (.slice x14 S.length y14) := ce HK4_11.out rfl
 have c41 : V11.cell? ⟨V5.heap.size, 1, none⟩ = some (.slice x24 F.length y24) := ce HK4_11.out rfl
 have c42 : V11.cell? ⟨V5.heap.size, 2, none⟩ = some (.slice x64 E.length y64) := ce HK4_11.out rfl
 have c43 : V11.cell? ⟨V5.heap.size, 3, none⟩ = some (.int .i64 N) := ce HK4_11.out rfl
 have c44 : V11.cell? ⟨V5.heap.size, 4, none⟩ = some (.int .i64 (M : Int)) := ce HK4_11.out rfl
 have c45 : V11.cell? ⟨V5.heap.size, 5, none⟩ = some (.int .i64 C) := ce HK4_11.out rfl
 go_wp2_with fail
 refine (eqServiceOut_same _ _ _ _ _ _ _ _ _ _ _ _ S F E N (M : Int) C V11 HO6_11.out.d.sl HO6_11.out.e.sl HO4_11.out.d.sl HO4_11.out.e.sl (Nat.le_trans hSL (Nat.le_trans m1 (by decide))) (Nat.le_trans hFL (Nat.le_trans m2 (by decide))) (Nat.le_trans hEL (by decide))).mono ?_
 rintro x V12 ⟨rfl, hb12⟩
 clear c60 c61 c62 c63 c64 c65 c40 c41 c42 c43 c44 c45
 have HKa_12 := hid ((hb12.block _ (lt_heap HKa_11.out)).trans HKa_11.out)
 have HK4_12 := hid ((hb12.block _ (lt_heap HK4_11.out)).trans HK4_11.out)
 have HKd_12 := hid ((hb12.block _ (lt_heap HKd_11.out)).trans HKd_11.out)
 have HK6_12 := hid ((hb12.block _ (lt_heap HK6_11.out)).trans HK6_11.out)
 have HO4_12 := hid (HO4_11.out.stay hb12)
 have HOd_12 := hid (HOd_11.out.stay hb12)
 have HO6_12 := hid (HO6_11.out.stay hb12)
 have HXx_12 := hid (ownB_stay HXx_11.out hb12)
 have HB12 := hid (HB11.out.trans (hb12.mono HB11.out.size))
 have hz12 := hb12.size
 clear HKa_11 HK4_11 HKd_11 HK6_11 HO4_11 HOd_11 HO6_11 HXx_11
 clear hb12
 have ca0 : V12.cell? ⟨w.heap.size, 0, none⟩ = some (.slice a1 ss.length k1) := ce HKa_12.out rfl
 have ca1 : V12.cell? ⟨w.heap.size, 1, none⟩ = some (.slice a2 fs.length k2) := ce HKa_12.out rfl
 have ca2 : V12.cell? ⟨w.heap.size, 2, none⟩ = some (.slice a6 es.length k6) := ce HKa_12.out rfl
 have ca3 : V12.cell? ⟨w.heap.size, 3, none⟩ = some (.int .i64 nx) := ce HKa_12.out rfl
 have cd0 : V12.cell? ⟨V7.heap.size, 0, none⟩ = some (.slice d1 ss.length f1) := ce HKd_12.out rfl
 have cd1 : V12.cell? ⟨V7.heap.size, 1, none⟩ = some (.slice d2 fs.length f2) := ce HKd_12.out rfl
 have cd2 : V12.cell? ⟨V7.heap.size, 2, none⟩ = some (.slice d6 es.length f6) := ce HKd_12.out rfl
 have cd3 : V12.cell? ⟨V7.heap.size, 3, none⟩ = some (.int .i64 nx) := ce HKd_12.out rfl
 have hlA : w.heap.size < V12.heap.size := lt_heap HKa_12.out
 have hlB : V7.heap.size < V12.heap.size := lt_heap HKd_12.out
 have hbR : Below V12.heap.size V12 V12.drew := (Below.refl _ _).drew
 go_wp2_with fail
 go_region_held3 (fun w' => w'.cell? ⟨w.heap.size, 0, none⟩ = some (.slice a1 ss.length k1) ∧ w'.cell? ⟨w.heap.size, 1, none⟩ = some (.slice a2 fs.length k2) ∧ w'.cell? ⟨w.heap.size, 2, none⟩ = some (.slice a6 es.length k6) ∧ w'.cell? ⟨w.heap.size, 3, none⟩ = some (.int .i64 nx) ∧ w'.cell? ⟨V7.heap.size, 0, none⟩ = some (.slice d1 ss.length f1) ∧ w'.cell? ⟨V7.heap.size, 1, none⟩ = some (.slice d2 fs.length f2) ∧ w'.cell? ⟨V7.heap.size, 2, none⟩ = some (.slice d6 es.length f6) ∧ w'.cell? ⟨V7.heap.size, 3, none⟩ = some (.int .i64 nx) ∧ Below V12.heap.size V12 w') (go_keep) (first | (go_at_call 8; refine (toService_any a1 a2 a6 k1 k2 k6 ss fs es nx _ ((HD.out.stay HB12.out).stay hbR) ((HE.out.stay HB12.out (Nat.le_refl _)).stay hbR (Nat.le_refl _)) m1 m2 m6).mono ?_; rintro x V13 ⟨i1, i2, i6, j1, j2, j6, rfl, hD13, hq13⟩; have hb13 := hbR.trans (hq13.mono hbR.size); have ka0_13 := (hb13.cell (p := ⟨w.heap.size, 0, none⟩) hlA).trans ca0; have ka1_13 := (hb13.cell (p := ⟨w.heap.size, 1, none⟩) hlA).trans ca1; have ka2_13 := (hb13.cell (p := ⟨w.heap.size, 2, none⟩) hlA).trans ca2; have ka3_13 := (hb13.cell (p := ⟨w.heap.size, 3, none⟩) hlA).trans ca3; have kd0_13 := (hb13.cell (p := ⟨V7.heap.size, 0, none⟩) hlB).trans cd0; have kd1_13 := (hb13.cell (p := ⟨V7.heap.size, 1, none⟩) hlB).trans cd1; have kd2_13 := (hb13.cell (p := ⟨V7.heap.size, 2, none⟩) hlB).trans cd2; have kd3_13 := (hb13.cell (p := ⟨V7.heap.size, 3, none⟩) hlB).trans cd3) | (go_at_call 12; refine (eqService_same d1 d2 d6 i1 i2 i6 f1 f2 f6 j1 j2 j6 ss fs es nx _ (HOd_12.out.stay hb13).d.sl (HOd_12.out.stay hb13).e.sl hD13.d.sl (sl_of_own hD13.o6) (Nat.le_trans m1 (by decide)) (Nat.le_trans m2 (by decide)) (Nat.le_trans m6 (by decide))).mono ?_; rintro x V14 ⟨rfl, hq14⟩; have hb14 := hb13.trans (hq14.mono hb13.size); have ka0_14 := (hb14.cell (p := ⟨w.heap.size, 0, none⟩) hlA).trans ca0; have ka1_14 := (hb14.cell (p := ⟨w.heap.size, 1, none⟩) hlA).trans ca1; have ka2_14 := (hb14.cell (p := ⟨w.heap.size, 2, none⟩) hlA).trans ca2; have ka3_14 := (hb14.cell (p := ⟨w.heap.size, 3, none⟩) hlA).trans ca3; have kd0_14 := (hb14.cell (p := ⟨V7.heap.size, 0, none⟩) hlB).trans cd0; have kd1_14 := (hb14.cell (p := ⟨V7.heap.size, 1, none⟩) hlB).trans cd1; have kd2_14 := (hb14.cell (p := ⟨V7.heap.size, 2, none⟩) hlB).trans cd2; have kd3_14 := (hb14.cell (p := ⟨V7.heap.size, 3, none⟩) hlB).trans cd3))
 have HKa_14 := hid ((hb14.block _ (lt_heap HKa_12.out)).trans HKa_12.out)
 have HK4_14 := hid ((hb14.block _ (lt_heap HK4_12.out)).trans HK4_12.out)
 have HKd_14 := hid ((hb14.block _ (lt_heap HKd_12.out)).trans HKd_12.out)
 have HK6_14 := hid ((hb14.block _ (lt_heap HK6_12.out)).trans HK6_12.out)
 have HO4_14 := hid (HO4_12.out.stay hb14)
 have HOd_14 := hid (HOd_12.out.stay hb14)
 have HO6_14 := hid (HO6_12.out.stay hb14)
 have HXx_14 := hid (ownB_stay HXx_12.out hb14)
 have HB14 := hid (HB12.out.trans (hb14.mono HB12.out.size))
 have hz14 := hb14.size
 clear HKa_12 HK4_12 HKd_12 HK6_12 HO4_12 HOd_12 HO6_12 HXx_12
 clear hlA hlB hbR hq13 hD13 hb13 hq14 hb14 ka0_13 ka0_14 ka1_13 ka1_14 ka2_13 ka2_14 ka3_13 ka3_14 kd0_13 kd0_14 kd1_13 kd1_14 kd2_13 kd2_14 kd3_13 kd3_14
 clear ca0 ca1 ca2 ca3 cd0 cd1 cd2 cd3
 go_wp2_with fail
 refine (toEventS_any _ l _ (HL.out.stay HB14.out (Nat.le_refl _)) m7).mono ?_
 rintro x V15 ⟨v15, rfl, hXt, hb15⟩
 have HKa_15 := hid ((hb15.block _ (lt_heap HKa_14.out)).trans HKa_14.out)
 have HK4_15 := hid ((hb15.block _ (lt_heap HK4_14.out)).trans HK4_14.out)
 have HKd_15 := hid ((hb15.block _ (lt_heap HKd_14.out)).trans HKd_14.out)
 have HK6_15 := hid ((hb15.block _ (lt_heap HK6_14.out)).trans HK6_14.out)
 have HO4_15 := hid (HO4_14.out.stay hb15)
 have HOd_15 := hid (HOd_14.out.stay hb15)
 have HO6_15 := hid (HO6_14.out.stay hb15)
 have HXx_15 := hid (ownB_stay HXx_14.out hb15)
 have HB15 := hid (HB14.out.trans (hb15.mono HB14.out.size))
 have hz15 := hb15.size
 clear HKa_14 HK4_14 HKd_14 HK6_14 HO4_14 HOd_14 HO6_14 HXx_14
 have hX15 := hid hXt
 clear hXt
 go_wp2_with fail
 refine (eqEventS_any (.slice xa l.length xc) _ l _ (sl_of_own HXx_15.out) (sl_of_own hX15.out) (Nat.le_trans m7 (by decide))).mono ?_
 rintro x V16 ⟨rfl, hb16⟩
 have HKa_16 := hid ((hb16.block _ (lt_heap HKa_15.out)).trans HKa_15.out)
 have HK4_16 := hid ((hb16.block _ (lt_heap HK4_15.out)).trans HK4_15.out)
 have HKd_16 := hid ((hb16.block _ (lt_heap HKd_15.out)).trans HKd_15.out)
 have HK6_16 := hid ((hb16.block _ (lt_heap HK6_15.out)).trans HK6_15.out)
 have HO4_16 := hid (HO4_15.out.stay hb16)
 have HOd_16 := hid (HOd_15.out.stay hb16)
 have HO6_16 := hid (HO6_15.out.stay hb16)
 have HXx_16 := hid (ownB_stay HXx_15.out hb16)
 have HB16 := hid (HB15.out.trans (hb16.mono HB15.out.size))
 have hz16 := hb16.size
 clear HKa_15 HK4_15 HKd_15 HK6_15 HO4_15 HOd_15 HO6_15 HXx_15
 clear hb15 hX15 hb16
 have cd0 : V16.cell? ⟨V7.heap.size, 0, none⟩ = some (.slice d1 ss.length f1) := ce HKd_16.out rfl
 have cd1 : V16.cell? ⟨V7.heap.size, 1, none⟩ = some (.slice d2 fs.length f2) := ce HKd_16.out rfl
 have cd2 : V16.cell? ⟨V7.heap.size, 2, none⟩ = some (.slice d6 es.length f6) := ce HKd_16.out rfl
 have cd3 : V16.cell? ⟨V7.heap.size, 3, none⟩ = some (.int .i64 nx) := ce HKd_16.out rfl
 go_wp2_with fail
 refine (markService_ev _ ss.length fs.length es.length 1 nx _ _ _ _ _ _ _ _ _ _ HOd_16.out.d.o1 HOd_16.out.d.o2 HOd_16.out.e (by decide) (by omega)).mono ?_
 rintro x V17 ⟨rfl, _, hc17⟩
 clear cd0 cd1 cd2 cd3
 have HKa_17 := hid ((hc17.block _ (lt_heap HKa_16.out) (HOd_16.out.ne HKa_16.out (by decide))).trans HKa_16.out)
 have HK4_17 := hid ((hc17.block _ (lt_heap HK4_16.out) (HOd_16.out.ne HK4_16.out (by decide))).trans HK4_16.out)
 have HK6_17 := hid ((hc17.block _ (lt_heap HK6_16.out) (HOd_16.out.ne HK6_16.out (by decide))).trans HK6_16.out)
 have HO4_17 := hid (HO4_16.out.chg hc17 (fun g h h9 => by have := H4l.out g h; have := Hdl.out g h9; omega))
 have HO6_17 := hid (HO6_16.out.chg hc17 (fun g h h9 => by have := H6l.out g h; have := Hdl.out g h9; omega))
 have HXx_17 := hid (own_chg HXx_16.out hc17 (fun g h h9 => by have := Hxl.out g h; have := Hdl.out g h9; omega))
 have HB17 := hid (HB16.out.trans (hc17.below HB16.out.size (fun j h => by have := Hdl.out j h; have := HB6.out.size; omega)))
 have hz17 := hc17.size
 clear HKa_16 HK4_16 HKd_16 HK6_16 HO4_16 HOd_16 HO6_16 HXx_16 hc17
 have hK1 : 0 < (1 + (ss.length : Int) + 2 * (fs.length : Int) + 6 * (es.length : Int)) := by omega
 have hK1m : (1 + (ss.length : Int) + 2 * (fs.length : Int) + 6 * (es.length : Int)) ≤ 100000000 := by omega
 generalize (1 + (ss.length : Int) + 2 * (fs.length : Int) + 6 * (es.length : Int)) = K1 at *
 go_wp2_with fail
 refine (markEventS_own (.slice xa l.length xc) l.length _ K1 _ _ HXx_17.out hK1 (by omega)).mono ?_
 rintro x V18 ⟨rfl, hc18⟩
 have HKa_18 := hid ((hc18.block _ (lt_heap HKa_17.out) (fun h => own_ne HXx_17.out HKa_17.out (by decide) _ h rfl)).trans HKa_17.out)
 have HK4_18 := hid ((hc18.block _ (lt_heap HK4_17.out) (fun h => own_ne HXx_17.out HK4_17.out (by decide) _ h rfl)).trans HK4_17.out)
 have HK6_18 := hid ((hc18.block _ (lt_heap HK6_17.out) (fun h => own_ne HXx_17.out HK6_17.out (by decide) _ h rfl)).trans HK6_17.out)
 have HO4_18 := hid (HO4_17.out.chg hc18 (fun g h h9 => by have := H4l.out g h; have := Hxl.out g h9; omega))
 have HO6_18 := hid (HO6_17.out.chg hc18 (fun g h h9 => by have := H6l.out g h; have := Hxl.out g h9; omega))
 have HB18 := hid (HB17.out.trans (hc18.below HB17.out.size (fun j h => by have := Hxl.out j h; have := HB8.out.size; omega)))
 have hz18 := hc18.size
 clear HKa_17 HK4_17 HK6_17 HO4_17 HO6_17 HXx_17 hc18
 have hK2 : 0 < K1 + 6 * (l.length : Int) := by omega
 generalize K1 + 6 * (l.length : Int) = K2 at *
 have hKn : decide (K2 < 0) = false := by simp; omega
 have c60 : V18.cell? ⟨V10.heap.size, 0, none⟩ = some (.slice x16 S.length y16) := ce HK6_18.out rfl
 have c61 : V18.cell? ⟨V10.heap.size, 1, none⟩ = some (.slice x26 F.length y26) := ce HK6_18.out rfl
 have c62 : V18.cell? ⟨V10.heap.size, 2, none⟩ = some (.slice x66 E.length y66) := ce HK6_18.out rfl
 have c63 : V18.cell? ⟨V10.heap.size, 3, none⟩ = some (.int .i64 N) := ce HK6_18.out rfl
 have c64 : V18.cell? ⟨V10.heap.size, 4, none⟩ = some (.int .i64 (M : Int)) := ce HK6_18.out rfl
 have c65 : V18.cell? ⟨V10.heap.size, 5, none⟩ = some (.int .i64 C) := ce HK6_18.out rfl
 have c40 : V18.cell? ⟨V5.heap.size, 0, none⟩ = some (.slice x14 S.length y14) := ce HK4_18.out rfl
 have c41 : V18.cell? ⟨V5.heap.size, 1, none⟩ = some (.slice x24 F.length y24) := ce HK4_18.out rfl
 have c42 : V18.cell? ⟨V5.heap.size, 2, none⟩ = some (.slice x64 E.length y64) := ce HK4_18.out rfl
 have c43 : V18.cell? ⟨V5.heap.size, 3, none⟩ = some (.int .i64 N) := ce HK4_18.out rfl
 have c44 : V18.cell? ⟨V5.heap.size, 4, none⟩ = some (.int .i64 (M : Int)) := ce HK4_18.out rfl
 have c45 : V18.cell? ⟨V5.heap.size, 5, none⟩ = some (.int .i64 C) := ce HK4_18.out rfl
 go_wp2_with fail
 refine (eqServiceOut_same _ _ _ _ _ _ _ _ _ _ _ _ S F E N (M : Int) C V18 HO6_18.out.d.sl HO6_18.out.e.sl HO4_18.out.d.sl HO4_18.out.e.sl (Nat.le_trans hSL (Nat.le_trans m1 (by decide))) (Nat.le_trans hFL (Nat.le_trans m2 (by decide))) (Nat.le_trans hEL (by decide))).mono ?_
 rintro x V19 ⟨rfl, hb19⟩
 clear c60 c61 c62 c63 c64 c65 c40 c41 c42 c43 c44 c45
 have HKa_19 := hid ((hb19.block _ (lt_heap HKa_18.out)).trans HKa_18.out)
 have HK4_19 := hid ((hb19.block _ (lt_heap HK4_18.out)).trans HK4_18.out)
 have HK6_19 := hid ((hb19.block _ (lt_heap HK6_18.out)).trans HK6_18.out)
 have HO4_19 := hid (HO4_18.out.stay hb19)
 have HO6_19 := hid (HO6_18.out.stay hb19)
 have HB19 := hid (HB18.out.trans (hb19.mono HB18.out.size))
 have hz19 := hb19.size
 clear HKa_18 HK4_18 HK6_18 HO4_18 HO6_18
 clear hb19
 have c60 : V19.cell? ⟨V10.heap.size, 0, none⟩ = some (.slice x16 S.length y16) := ce HK6_19.out rfl
 have c61 : V19.cell? ⟨V10.heap.size, 1, none⟩ = some (.slice x26 F.length y26) := ce HK6_19.out rfl
 have c62 : V19.cell? ⟨V10.heap.size, 2, none⟩ = some (.slice x66 E.length y66) := ce HK6_19.out rfl
 have c63 : V19.cell? ⟨V10.heap.size, 3, none⟩ = some (.int .i64 N) := ce HK6_19.out rfl
 have c64 : V19.cell? ⟨V10.heap.size, 4, none⟩ = some (.int .i64 (M : Int)) := ce HK6_19.out rfl
 have c65 : V19.cell? ⟨V10.heap.size, 5, none⟩ = some (.int .i64 C) := ce HK6_19.out rfl
 go_wp2_with fail
 refine (markServiceOut_ev _ S.length F.length E.length 1 N (M : Int) C _ _ _ _ _ _ _ _ _ _ HO6_19.out.d.o1 HO6_19.out.d.o2 HO6_19.out.e (by decide) (by omega)).mono ?_
 rintro x V20 ⟨rfl, hM, hc20⟩
 clear c60 c61 c62 c63 c64 c65
 have HKa_20 := hid ((hc20.block _ (lt_heap HKa_19.out) (HO6_19.out.ne HKa_19.out (by decide))).trans HKa_19.out)
 have HK4_20 := hid ((hc20.block _ (lt_heap HK4_19.out) (HO6_19.out.ne HK4_19.out (by decide))).trans HK4_19.out)
 have HK6_20 := hid ((hc20.block _ (lt_heap HK6_19.out) (HO6_19.out.ne HK6_19.out (by decide))).trans HK6_19.out)
 have HO4_20 := hid (HO4_19.out.chg hc20 (fun g h h9 => by have := H4l.out g h; have := H6l.out g h9; omega))
 have HB20 := hid (HB19.out.trans (hc20.below HB19.out.size (fun j h => by have := H6l.out j h; have := HB9.out.size; omega)))
 have hz20 := hc20.size
 have HM_20 := hid hM
 clear HKa_19 HK4_19 HK6_19 HO4_19 HO6_19 hc20 hM
 have c60 : V20.cell? ⟨V10.heap.size, 0, none⟩ = some (.slice x16 S.length y16) := ce HK6_20.out rfl
 have c61 : V20.cell? ⟨V10.heap.size, 1, none⟩ = some (.slice x26 F.length y26) := ce HK6_20.out rfl
 have c62 : V20.cell? ⟨V10.heap.size, 2, none⟩ = some (.slice x66 E.length y66) := ce HK6_20.out rfl
 have c63 : V20.cell? ⟨V10.heap.size, 3, none⟩ = some (.int .i64 N) := ce HK6_20.out rfl
 have c64 : V20.cell? ⟨V10.heap.size, 4, none⟩ = some (.int .i64 (M : Int)) := ce HK6_20.out rfl
 have c65 : V20.cell? ⟨V10.heap.size, 5, none⟩ = some (.int .i64 C) := ce HK6_20.out rfl
 go_wp2_with fail
 refine (heldServiceOut_ev _ S.length F.length E.length 1 N (M : Int) C _ _ _ _ _ _ _ HM_20.out (by decide) (by omega)).mono ?_
 rintro x V21 ⟨rfl, hb21⟩
 clear c60 c61 c62 c63 c64 c65
 have HKa_21 := hid ((hb21.block _ (lt_heap HKa_20.out)).trans HKa_20.out)
 have HK4_21 := hid ((hb21.block _ (lt_heap HK4_20.out)).trans HK4_20.out)
 have HK6_21 := hid ((hb21.block _ (lt_heap HK6_20.out)).trans HK6_20.out)
 have HO4_21 := hid (HO4_20.out.stay hb21)
 have HB21 := hid (HB20.out.trans (hb21.mono HB20.out.size))
 have hz21 := hb21.size
 clear HKa_20 HK4_20 HK6_20 HO4_20
 have cH := hid (fun V (hV : Below V21.heap.size V21 V) => heldServiceOut_ev _ S.length F.length E.length 1 N (M : Int) C _ _ x66 _ _ y66 V ((HM_20.out.stay hb21).stay hV) (by decide) (by omega))
 clear hb21 HM_20
 have hK3 : 0 < (1 + (S.length : Int) + 2 * (F.length : Int) + 6 * (E.length : Int)) := by omega
 generalize (1 + (S.length : Int) + 2 * (F.length : Int) + 6 * (E.length : Int)) = K3 at *
 have hK3n : decide (K3 < 0) = false := by simp; omega
 have hR21 := Below.refl V21.heap.size V21
 have ca0 : V21.cell? ⟨w.heap.size, 0, none⟩ = some (.slice a1 ss.length k1) := ce HKa_21.out rfl
 have ca1 : V21.cell? ⟨w.heap.size, 1, none⟩ = some (.slice a2 fs.length k2) := ce HKa_21.out rfl
 have ca2 : V21.cell? ⟨w.heap.size, 2, none⟩ = some (.slice a6 es.length k6) := ce HKa_21.out rfl
 have ca3 : V21.cell? ⟨w.heap.size, 3, none⟩ = some (.int .i64 nx) := ce HKa_21.out rfl
 go_wp2_with fail
 refine (toService_any a1 a2 a6 k1 k2 k6 ss fs es nx _ (HD.out.stay HB21.out) (HE.out.stay HB21.out (Nat.le_refl _)) m1 m2 m6).mono ?_
 rintro x V22 ⟨p1, p2, p6, q1, q2, q6, rfl, hOt, hb22⟩
 clear ca0 ca1 ca2 ca3
 have HKa_22 := hid ((hb22.block _ (lt_heap HKa_21.out)).trans HKa_21.out)
 have HK4_22 := hid ((hb22.block _ (lt_heap HK4_21.out)).trans HK4_21.out)
 have HK6_22 := hid ((hb22.block _ (lt_heap HK6_21.out)).trans HK6_21.out)
 have HO4_22 := hid (HO4_21.out.stay hb22)
 have HB22 := hid (HB21.out.trans (hb22.mono HB21.out.size))
 have hz22 := hb22.size
 clear HKa_21 HK4_21 HK6_21 HO4_21
 have hO22 := hid hOt
 have hR22 := hR21.trans (hb22.mono hR21.size)
 clear hOt hb22 hR21
 go_wp2_with fail
 refine (toEventS_any _ l _ (HL.out.stay HB22.out (Nat.le_refl _)) m7).mono ?_
 rintro x V23 ⟨v23, rfl, hXt, hb23⟩
 have HKa_23 := hid ((hb23.block _ (lt_heap HKa_22.out)).trans HKa_22.out)
 have HK4_23 := hid ((hb23.block _ (lt_heap HK4_22.out)).trans HK4_22.out)
 have HK6_23 := hid ((hb23.block _ (lt_heap HK6_22.out)).trans HK6_22.out)
 have HO4_23 := hid (HO4_22.out.stay hb23)
 have HB23 := hid (HB22.out.trans (hb23.mono HB22.out.size))
 have hz23 := hb23.size
 clear HKa_22 HK4_22 HK6_22 HO4_22
 obtain ⟨p7, q7, rfl⟩ := ownB_form hXt
 have hR23 := hR22.trans (hb23.mono hR22.size)
 have cc := hid (cIm.out p1 p2 p6 p7 q1 q2 q6 q7 V23 HB23.out (hO22.out.stay hb23).d.sl (sl_of_own (hO22.out.stay hb23).o6) (sl_of_own hXt))
 clear hXt hb23 hR22
 go_wp2_with fail
 refine cc.out.mono ?_
 rintro x V24 ⟨x1p, x2p, x6p, y1p, y2p, y6p, rfl, hOn, hbn⟩
 have HKa_24 := hid ((hbn.block _ (lt_heap HKa_23.out)).trans HKa_23.out)
 have HK4_24 := hid ((hbn.block _ (lt_heap HK4_23.out)).trans HK4_23.out)
 have HK6_24 := hid ((hbn.block _ (lt_heap HK6_23.out)).trans HK6_23.out)
 have HO4_24 := hid (HO4_23.out.stay hbn)
 have HB24 := hid (HB23.out.trans (hbn.mono HB23.out.size))
 have hz24 := hbn.size
 clear HKa_23 HK4_23 HK6_23 HO4_23
 have hR24 := hR23.trans (hbn.mono hR23.size)
 clear cc hbn hO22 hR23
 have HOp_24 := hid hOn
 clear hOn
 have hR25 : Below V21.heap.size V21 (V24.alloc (.cells #[.slice x1p S.length y1p, .slice x2p F.length y2p, .slice x6p E.length y6p, .int .i64 N, .int .i64 (M : Int), .int .i64 C] 38)) := hR24.alloc hR24.size _
 have hbx : Below V24.heap.size V24 (V24.alloc (.cells #[.slice x1p S.length y1p, .slice x2p F.length y2p, .slice x6p E.length y6p, .int .i64 N, .int .i64 (M : Int), .int .i64 C] 38)) := (Below.refl _ _).alloc (Nat.le_refl _) _
 have HKp_25 := hid (heap_alloc_new V24 (.cells #[.slice x1p S.length y1p, .slice x2p F.length y2p, .slice x6p E.length y6p, .int .i64 N, .int .i64 (M : Int), .int .i64 C] 38))
 have hs25 : (V24.alloc (.cells #[.slice x1p S.length y1p, .slice x2p F.length y2p, .slice x6p E.length y6p, .int .i64 N, .int .i64 (M : Int), .int .i64 C] 38)).heap.size = V24.heap.size + 1 := by simp
 have HKa_25 := hid ((hbx.block _ (lt_heap HKa_24.out)).trans HKa_24.out)
 have HK4_25 := hid ((hbx.block _ (lt_heap HK4_24.out)).trans HK4_24.out)
 have HK6_25 := hid ((hbx.block _ (lt_heap HK6_24.out)).trans HK6_24.out)
 have HO4_25 := hid (HO4_24.out.stay hbx)
 have HOp_25 := hid (HOp_24.out.stay hbx)
 have HB25 := hid (HB24.out.trans (hbx.mono HB24.out.size))
 have hz25 := hbx.size
 clear HKa_24 HK4_24 HK6_24 HO4_24 HOp_24
 clear hbx
 go_upto_region 32 with fail
 generalize (V24.alloc (.cells #[.slice x1p S.length y1p, .slice x2p F.length y2p, .slice x6p E.length y6p, .int .i64 N, .int .i64 (M : Int), .int .i64 C] 38)) = V25 at *
 have cp0 : V25.cell? ⟨V24.heap.size, 0, none⟩ = some (.slice x1p S.length y1p) := ce HKp_25.out rfl
 have cp1 : V25.cell? ⟨V24.heap.size, 1, none⟩ = some (.slice x2p F.length y2p) := ce HKp_25.out rfl
 have cp2 : V25.cell? ⟨V24.heap.size, 2, none⟩ = some (.slice x6p E.length y6p) := ce HKp_25.out rfl
 have cp3 : V25.cell? ⟨V24.heap.size, 3, none⟩ = some (.int .i64 N) := ce HKp_25.out rfl
 have cp4 : V25.cell? ⟨V24.heap.size, 4, none⟩ = some (.int .i64 (M : Int)) := ce HKp_25.out rfl
 have cp5 : V25.cell? ⟨V24.heap.size, 5, none⟩ = some (.int .i64 C) := ce HKp_25.out rfl
 have c40 : V25.cell? ⟨V5.heap.size, 0, none⟩ = some (.slice x14 S.length y14) := ce HK4_25.out rfl
 have c41 : V25.cell? ⟨V5.heap.size, 1, none⟩ = some (.slice x24 F.length y24) := ce HK4_25.out rfl
 have c42 : V25.cell? ⟨V5.heap.size, 2, none⟩ = some (.slice x64 E.length y64) := ce HK4_25.out rfl
 have c43 : V25.cell? ⟨V5.heap.size, 3, none⟩ = some (.int .i64 N) := ce HK4_25.out rfl
 have c44 : V25.cell? ⟨V5.heap.size, 4, none⟩ = some (.int .i64 (M : Int)) := ce HK4_25.out rfl
 have c45 : V25.cell? ⟨V5.heap.size, 5, none⟩ = some (.int .i64 C) := ce HK4_25.out rfl
 go_wp2_with fail
 refine (eqServiceOut_same _ _ _ _ _ _ _ _ _ _ _ _ S F E N (M : Int) C V25 HOp_25.out.d.sl HOp_25.out.e.sl HO4_25.out.d.sl HO4_25.out.e.sl (Nat.le_trans hSL (Nat.le_trans m1 (by decide))) (Nat.le_trans hFL (Nat.le_trans m2 (by decide))) (Nat.le_trans hEL (by decide))).mono ?_
 rintro x V26 ⟨rfl, hb26⟩
 clear cp0 cp1 cp2 cp3 cp4 cp5 c40 c41 c42 c43 c44 c45
 have HKa_26 := hid ((hb26.block _ (lt_heap HKa_25.out)).trans HKa_25.out)
 have HK4_26 := hid ((hb26.block _ (lt_heap HK4_25.out)).trans HK4_25.out)
 have HK6_26 := hid ((hb26.block _ (lt_heap HK6_25.out)).trans HK6_25.out)
 have HKp_26 := hid ((hb26.block _ (lt_heap HKp_25.out)).trans HKp_25.out)
 have HO4_26 := hid (HO4_25.out.stay hb26)
 have HOp_26 := hid (HOp_25.out.stay hb26)
 have HB26 := hid (HB25.out.trans (hb26.mono HB25.out.size))
 have hz26 := hb26.size
 clear HKa_25 HK4_25 HK6_25 HKp_25 HO4_25 HOp_25
 have hR26 := hR25.trans (hb26.mono hR25.size)
 clear hb26
 have c60 : V26.cell? ⟨V10.heap.size, 0, none⟩ = some (.slice x16 S.length y16) := ce HK6_26.out rfl
 have c61 : V26.cell? ⟨V10.heap.size, 1, none⟩ = some (.slice x26 F.length y26) := ce HK6_26.out rfl
 have c62 : V26.cell? ⟨V10.heap.size, 2, none⟩ = some (.slice x66 E.length y66) := ce HK6_26.out rfl
 have c63 : V26.cell? ⟨V10.heap.size, 3, none⟩ = some (.int .i64 N) := ce HK6_26.out rfl
 have c64 : V26.cell? ⟨V10.heap.size, 4, none⟩ = some (.int .i64 (M : Int)) := ce HK6_26.out rfl
 have c65 : V26.cell? ⟨V10.heap.size, 5, none⟩ = some (.int .i64 C) := ce HK6_26.out rfl
 go_wp2_with fail
 refine (cH.out _ hR26).mono ?_
 rintro x V27 ⟨rfl, hb27⟩
 have HB27 := hid (HB26.out.trans (hb27.mono HB26.out.size))
 clear c60 c61 c62 c63 c64 c65
 go_wp2_with fail
 go_ret
 exact ⟨rfl, HB27.out⟩
end Go.Proofs.YtookchpdbilbcaaGreatDoor
