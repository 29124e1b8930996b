/-
  The law FnExactAsOf, walked: it answers true. (Made by mkaslaw.py.)
-/
import Derived.Test.YtadidjhcgmeadaaGreatDoorZVaEq5
import Derived.Test.YtadidjhcgmeadaaGreatDoorZFlLaw5
import Derived.Test.YtadidjhcgmeadaaGreatDoorZOfSm2
import Derived.Test.YtadidjhcgmeadaaGreatDoorZSpAs
import Derived.Test.YtadidjhcgmeadaaGreatDoorZImUp2
import Derived.Deep.RegionHeld3
import Derived.Deep.CutRange
namespace Go.Proofs.YtadidjhcgmeadaaGreatDoor
open Go.RowKit Go.Sort

theorem asS_small (ss : List ByteArray) (fs : List Pr) (es : List Ev) (r t : Int) : (asS ss fs es r t).2.wait.length ≤ 40 ∧ (asS ss fs es r t).2.busy.length ≤ 40 ∧ (asS ss fs es r t).2.vars.length ≤ 20 := by
  by_cases h4 : 400 < es.length
  · rw [asS_big ss fs r t h4]; exact ⟨Nat.zero_le _, Nat.zero_le _, Nat.zero_le _⟩
  · by_cases h : HistP ss fs es ∧ timB t = true
    · by_cases h0 : (ofRun es r).length = 0
      · rw [asS_none ss fs r t h4 h.1 h.2 h0]; exact ⟨Nat.zero_le _, Nat.zero_le _, Nat.zero_le _⟩
      · rw [asS_yes ss fs r t h4 h.1 h.2 h0]; exact ofS_small h.1.d _ z0 (z0_right ss)
    · rw [asS_no ss fs r t h4 h]; exact ⟨Nat.zero_le _, Nat.zero_le _, Nat.zero_le _⟩
set_option maxRecDepth 100000 in
set_option maxHeartbeats 8000000 in
theorem fnExactAsOf_walk (a1 a2 a6 : Option Addr) (k1 k2 k6 : Nat) (ss : List ByteArray) (fs : List Pr) (es : List Ev) (rn tm : Int) (e0 e1 e2 e3 e4 : Addr) (w : World) (hD : DefSl w a1 a2 k1 k2 ss fs) (hE : EvSl w (.slice a6 es.length k6) es) (F1 : FitS ss) (F2 : FitP fs) (FE : Fit es) (n1 : ss.length ≤ maxLen) (n2 : fs.length ≤ maxLen) (n6 : es.length ≤ maxLen) (hEr : ErrsAt w e0 e1 e2 e3 e4) :
    Calls Tryz.prog 4 #[defV a1 a2 k1 k2 ss fs, .slice a6 es.length k6, .int .i64 rn, .int .i64 tm] w fun x w' => x = .returned (.bool true) ∧ Below w.heap.size w w' := by
  have hb0 : Below w.heap.size w (w.alloc (.cells #[.slice a1 ss.length k1, .slice a2 fs.length k2] 25)) := (Below.refl _ _).alloc (Nat.le_refl _) _
  have hs0 : (w.alloc (.cells #[.slice a1 ss.length k1, .slice a2 fs.length k2] 25)).heap.size = w.heap.size + 1 := by simp
  have Kd0 := hid (show (w.alloc (.cells #[.slice a1 ss.length k1, .slice a2 fs.length k2] 25)).cell? ⟨w.heap.size, 0, none⟩ = some (.slice a1 ss.length k1) by simp [go_sem])
  have Kd1 := hid (show (w.alloc (.cells #[.slice a1 ss.length k1, .slice a2 fs.length k2] 25)).cell? ⟨w.heap.size, 1, none⟩ = some (.slice a2 fs.length k2) by simp [go_sem])
  have HB0 := hid hb0
  have HD := hid hD
  have HV := hid hE
  have HE := hid hEr
  have HF := hid FE
  have cz1 := hid (szDef_any a1 a2 k1 k2 ss fs 1048576 (w.alloc (.cells #[.slice a1 ss.length k1, .slice a2 fs.length k2] 25)) (hD.h1.stay hb0 (Nat.le_refl _)) (hD.h2.stay hb0 (Nat.le_refl _)) F1 F2 (by decide) (by decide) n1 n2)
  have cSp := hid (fun (p1 p2 p6 : Option Addr) (q1 q2 q6 : Nat) V hD hE => specAsOf_any p1 p2 p6 q1 q2 q6 ss fs es rn tm V hD hE F1 FE n1 n2 n6)
  have cIm := hid (fun (p1 p2 p6 : Option Addr) (q1 q2 q6 : Nat) V hD hE hR => implAsOf_any p1 p2 p6 q1 q2 q6 ss fs es rn tm V hD hE F1 F2 FE n1 n2 n6 e0 e1 e2 e3 e4 hR)
  have hsm := asS_small ss fs es rn tm
  generalize hrs : asS ss fs es rn tm = cs at *
  clear hrs
  obtain ⟨c, S'⟩ := cs
  simp only at hsm cSp cIm
  obtain ⟨hw3, hw4, hw5⟩ := hsm
  have HN6 := hid n6
  clear hD hE hEr hb0 F1 F2 FE n1 n2 n6
  go_enter Tryz.func4, Tryz.ntmps4
  go_wp2_with fail
  refine cz1.out.mono ?_
  generalize (w.alloc (.cells #[.slice a1 ss.length k1, .slice a2 fs.length k2] 25)) = V0 at *
  rintro x V1 ⟨r1, rfl, hr1, hb1⟩
  have HC1 := hid hb1
  have HB1 := hid (HB0.out.trans (hb1.mono HB0.out.size))
  have hz1 := hb1.size
  clear hb1 cz1
  rcases hr1 with rfl | ⟨r10, r11, m1, m2⟩
  · go_wp2_with fail
    go_ret
    exact ⟨rfl, HB1.out⟩
  have cz2 := hid (szEventS_all (.slice a6 es.length k6) es r1 V1 (HV.out.stay HB1.out (Nat.le_refl _)) HF.out r10 (by omega) HN6.out)
  have hr2 := szR_two es r10
  generalize szR r1 es = r2 at *
  go_wp2_with fail
  refine cz2.out.mono ?_
  rintro x V2 ⟨rfl, hb2⟩
  have HC2 := hid (HC1.out.trans (hb2.mono HC1.out.size))
  have HB2 := hid (HB1.out.trans (hb2.mono HB1.out.size))
  have hz2 := hb2.size
  clear hb2 cz2
  rcases hr2 with rfl | ⟨r20, m6'⟩
  · go_wp2_with fail
    go_ret
    exact ⟨rfl, HB2.out⟩
  have m6 : es.length ≤ 1048576 := by omega
  clear m6'
  have ca0 := (HC2.out.cell (p := ⟨w.heap.size, 0, none⟩) (by show w.heap.size < _; omega)).trans Kd0.out
  have ca1 := (HC2.out.cell (p := ⟨w.heap.size, 1, none⟩) (by show w.heap.size < _; omega)).trans Kd1.out
  go_wp2_with fail
  refine (toDef_own a1 a2 k1 k2 ss fs _ (HD.out.stay HB2.out) m1 m2).mono ?_
  rintro x V3 ⟨p1, p2, q1, q2, rfl, hO3, hb3⟩
  clear ca0 ca1
  have HC3 := hid (HC2.out.trans (hb3.mono HC2.out.size))
  have HB3 := hid (HB2.out.trans (hb3.mono HB2.out.size))
  have hz3 := hb3.size
  clear hb3
  go_wp2_with fail
  refine (toEventS_any (.slice a6 es.length k6) es _ (HV.out.stay HB3.out (Nat.le_refl _)) m6).mono ?_
  rintro x V4 ⟨vv, rfl, hu4, hb4⟩
  obtain ⟨p6, q6, rfl⟩ := ownB_form hu4
  have HC4 := hid (HC3.out.trans (hb4.mono HC3.out.size))
  have HB4 := hid (HB3.out.trans (hb4.mono HB3.out.size))
  have hz4 := hb4.size
  have cc := hid (cSp.out p1 p2 p6 q1 q2 q6 V4 (hO3.stay hb4).sl (sl_of_own hu4))
  clear hb4 hO3 hu4
  go_wp2_with fail
  refine cc.out.mono ?_
  rintro x V5 ⟨z3, z4, z5, rfl, hO5, hb5⟩
  obtain ⟨x3, x4, x5, y3, y4, y5, rfl, rfl, rfl⟩ := hO5.forms
  have HC5 := hid (HC4.out.trans (hb5.mono HC4.out.size))
  have HB5 := hid (HB4.out.trans (hb5.mono HB4.out.size))
  have hz5 := hb5.size
  clear hb5 cc
  have hb6 : Below V5.heap.size V5 (V5.alloc (.cells #[.int .i64 S'.status, .int .i64 S'.begun, .int .i64 S'.last, .slice x3 S'.wait.length y3, .slice x4 S'.busy.length y4, .slice x5 S'.vars.length y5, .int .i64 S'.faults, .int .i64 c] 43)) := (Below.refl _ _).alloc (Nat.le_refl _) _
  have HC6 := hid (HC5.out.trans (hb6.mono HC5.out.size))
  have HB6 := hid (HB5.out.trans (hb6.mono HB5.out.size))
  have hz6 := hb6.size
  have hk6 := heap_alloc_new V5 (.cells #[.int .i64 S'.status, .int .i64 S'.begun, .int .i64 S'.last, .slice x3 S'.wait.length y3, .slice x4 S'.busy.length y4, .slice x5 S'.vars.length y5, .int .i64 S'.faults, .int .i64 c] 43)
  have HOn := hid (hO5.stay hb6)
  have Hnl := hid (fun j (h : P3 (.slice x3 S'.wait.length y3) (.slice x4 S'.busy.length y4) (.slice x5 S'.vars.length y5) j) => (by rcases h with h | h | h; exact own_lt hO5.o3 j h; exact own_lt hO5.o4 j h; exact own_lt hO5.o5 j h))
  have hln := lt_heap hk6
  have HKn := hid hk6
  have hsn : V5.heap.size + 1 = (V5.alloc (.cells #[.int .i64 S'.status, .int .i64 S'.begun, .int .i64 S'.last, .slice x3 S'.wait.length y3, .slice x4 S'.busy.length y4, .slice x5 S'.vars.length y5, .int .i64 S'.faults, .int .i64 c] 43)).heap.size := by simp
  clear hb6 hk6 hO5
  unfold outV
  go_upto_region 9 with fail
  generalize (V5.alloc (.cells #[.int .i64 S'.status, .int .i64 S'.begun, .int .i64 S'.last, .slice x3 S'.wait.length y3, .slice x4 S'.busy.length y4, .slice x5 S'.vars.length y5, .int .i64 S'.faults, .int .i64 c] 43)) = V6 at *
  have HK8_6 := HKn
  have HO8_6 := HOn
  have H8l := Hnl
  have hB8 := hln
  clear HKn HOn Hnl hln
  have ca0 := (HC6.out.cell (p := ⟨w.heap.size, 0, none⟩) (by show w.heap.size < _; omega)).trans Kd0.out
  have ca1 := (HC6.out.cell (p := ⟨w.heap.size, 1, none⟩) (by show w.heap.size < _; omega)).trans Kd1.out
  go_wp2_with fail
  refine (toDef_own a1 a2 k1 k2 ss fs _ (HD.out.stay HB6.out) m1 m2).mono ?_
  rintro x V7 ⟨d1, d2, f1, f2, rfl, hO7, hb7⟩
  clear ca0 ca1
  have HC7 := hid (HC6.out.trans (hb7.mono HC6.out.size))
  have HB7 := hid (HB6.out.trans (hb7.mono HB6.out.size))
  have hz7 := hb7.size
  have HK8_7 := hid ((hb7.block _ (lt_heap HK8_6.out)).trans HK8_6.out)
  have HO8_7 := hid (StOwn.stay HO8_6.out hb7)
  clear HK8_6 HO8_6
  have Hdl := hid (fun j (h : (Value.slice d1 ss.length f1).ownBlock = some j ∨ (Value.slice d2 fs.length f2).ownBlock = some j) => (by rcases h with h | h; exact own_lt hO7.o1 j h; exact own_lt hO7.o2 j h : V6.heap.size ≤ j ∧ j < V7.heap.size))
  have hb8 : Below V7.heap.size V7 (V7.alloc (.cells #[.slice d1 ss.length f1, .slice d2 fs.length f2] 32)) := (Below.refl _ _).alloc (Nat.le_refl _) _
  have HC8 := hid (HC7.out.trans (hb8.mono HC7.out.size))
  have HB8 := hid (HB7.out.trans (hb8.mono HB7.out.size))
  have hz8 := hb8.size
  have HK8_8 := hid ((hb8.block _ (lt_heap HK8_7.out)).trans HK8_7.out)
  have HO8_8 := hid (StOwn.stay HO8_7.out hb8)
  clear HK8_7 HO8_7
  have HKd_8 := hid (heap_alloc_new V7 (.cells #[.slice d1 ss.length f1, .slice d2 fs.length f2] 32))
  have HOd_8 := hid (hO7.stay hb8)
  have hs8 : V7.heap.size + 1 = (V7.alloc (.cells #[.slice d1 ss.length f1, .slice d2 fs.length f2] 32)).heap.size := by simp
  clear hb7 hb8 hO7
  go_upto_region 10 with fail
  generalize (V7.alloc (.cells #[.slice d1 ss.length f1, .slice d2 fs.length f2] 32)) = V8 at *
  go_wp2_with fail
  refine (toEventS_any (.slice a6 es.length k6) es _ (HV.out.stay HB8.out (Nat.le_refl _)) m6).mono ?_
  rintro x V9 ⟨vv, rfl, hu9, hb9⟩
  obtain ⟨p6, q6, rfl⟩ := ownB_form hu9
  have HC9 := hid (HC8.out.trans (hb9.mono HC8.out.size))
  have HB9 := hid (HB8.out.trans (hb9.mono HB8.out.size))
  have hz9 := hb9.size
  have HK8_9 := hid ((hb9.block _ (lt_heap HK8_8.out)).trans HK8_8.out)
  have HKd_9 := hid ((hb9.block _ (lt_heap HKd_8.out)).trans HKd_8.out)
  have HO8_9 := hid (StOwn.stay HO8_8.out hb9)
  have HOd_9 := hid (DefOwn.stay HOd_8.out hb9)
  clear HK8_8 HKd_8 HO8_8 HOd_8
  have Hul := hid (fun j (h : (Value.slice p6 es.length q6).ownBlock = some j) => own_lt hu9 j h)
  have HOu_9 := hid hu9
  clear hb9 hu9
  have cd0 : V9.cell? ⟨V7.heap.size, 0, none⟩ = some (.slice d1 ss.length f1) := by rw [Lib.cell_of_heap HKd_9.out]; rfl
  have cd1 : V9.cell? ⟨V7.heap.size, 1, none⟩ = some (.slice d2 fs.length f2) := by rw [Lib.cell_of_heap HKd_9.out]; rfl
  have cc := hid (cIm.out d1 d2 p6 f1 f2 q6 V9 HOd_9.out.sl (sl_of_own HOu_9.out) (HE.out.stay HB9.out))
  go_wp2_with fail
  refine cc.out.mono ?_
  rintro x V10 ⟨z3, z4, z5, rfl, hO10, hb10⟩
  obtain ⟨x3q, x4q, x5q, y3q, y4q, y5q, rfl, rfl, rfl⟩ := hO10.forms
  clear cd0 cd1
  have HC10 := hid (HC9.out.trans (hb10.mono HC9.out.size))
  have HB10 := hid (HB9.out.trans (hb10.mono HB9.out.size))
  have hz10 := hb10.size
  have HK8_10 := hid ((hb10.block _ (lt_heap HK8_9.out)).trans HK8_9.out)
  have HKd_10 := hid ((hb10.block _ (lt_heap HKd_9.out)).trans HKd_9.out)
  have HO8_10 := hid (StOwn.stay HO8_9.out hb10)
  have HOd_10 := hid (DefOwn.stay HOd_9.out hb10)
  have HOu_10 := hid (ownB_stay HOu_9.out hb10)
  clear HK8_9 HKd_9 HO8_9 HOd_9 HOu_9
  clear hb10 cc
  have hb11 : Below V10.heap.size V10 (V10.alloc (.cells #[.int .i64 S'.status, .int .i64 S'.begun, .int .i64 S'.last, .slice x3q S'.wait.length y3q, .slice x4q S'.busy.length y4q, .slice x5q S'.vars.length y5q, .int .i64 S'.faults, .int .i64 c] 43)) := (Below.refl _ _).alloc (Nat.le_refl _) _
  have HC11 := hid (HC10.out.trans (hb11.mono HC10.out.size))
  have HB11 := hid (HB10.out.trans (hb11.mono HB10.out.size))
  have hz11 := hb11.size
  have HK8_11 := hid ((hb11.block _ (lt_heap HK8_10.out)).trans HK8_10.out)
  have HKd_11 := hid ((hb11.block _ (lt_heap HKd_10.out)).trans HKd_10.out)
  have HO8_11 := hid (StOwn.stay HO8_10.out hb11)
  have HOd_11 := hid (DefOwn.stay HOd_10.out hb11)
  have HOu_11 := hid (ownB_stay HOu_10.out hb11)
  clear HK8_10 HKd_10 HO8_10 HOd_10 HOu_10
  have hk11 := heap_alloc_new V10 (.cells #[.int .i64 S'.status, .int .i64 S'.begun, .int .i64 S'.last, .slice x3q S'.wait.length y3q, .slice x4q S'.busy.length y4q, .slice x5q S'.vars.length y5q, .int .i64 S'.faults, .int .i64 c] 43)
  have HOn := hid (hO10.stay hb11)
  have Hnl := hid (fun j (h : P3 (.slice x3q S'.wait.length y3q) (.slice x4q S'.busy.length y4q) (.slice x5q S'.vars.length y5q) j) => (by rcases h with h | h | h; exact own_lt hO10.o3 j h; exact own_lt hO10.o4 j h; exact own_lt hO10.o5 j h))
  have hln := lt_heap hk11
  have HKn := hid hk11
  have hsn : V10.heap.size + 1 = (V10.alloc (.cells #[.int .i64 S'.status, .int .i64 S'.begun, .int .i64 S'.last, .slice x3q S'.wait.length y3q, .slice x4q S'.busy.length y4q, .slice x5q S'.vars.length y5q, .int .i64 S'.faults, .int .i64 c] 43)).heap.size := by simp
  clear hb11 hk11 hO10
  unfold outV
  go_upto_region 12 with fail
  generalize (V10.alloc (.cells #[.int .i64 S'.status, .int .i64 S'.begun, .int .i64 S'.last, .slice x3q S'.wait.length y3q, .slice x4q S'.busy.length y4q, .slice x5q S'.vars.length y5q, .int .i64 S'.faults, .int .i64 c] 43)) = V11 at *
  have HKe_11 := HKn
  have HOe_11 := HOn
  have Hel := Hnl
  have hBe := hln
  clear HKn HOn Hnl hln
  have c80 : V11.cell? ⟨V5.heap.size, 0, none⟩ = some (.int .i64 S'.status) := by rw [Lib.cell_of_heap HK8_11.out]; rfl
  have c81 : V11.cell? ⟨V5.heap.size, 1, none⟩ = some (.int .i64 S'.begun) := by rw [Lib.cell_of_heap HK8_11.out]; rfl
  have c82 : V11.cell? ⟨V5.heap.size, 2, none⟩ = some (.int .i64 S'.last) := by rw [Lib.cell_of_heap HK8_11.out]; rfl
  have c83 : V11.cell? ⟨V5.heap.size, 3, none⟩ = some (.slice x3 S'.wait.length y3) := by rw [Lib.cell_of_heap HK8_11.out]; rfl
  have c84 : V11.cell? ⟨V5.heap.size, 4, none⟩ = some (.slice x4 S'.busy.length y4) := by rw [Lib.cell_of_heap HK8_11.out]; rfl
  have c85 : V11.cell? ⟨V5.heap.size, 5, none⟩ = some (.slice x5 S'.vars.length y5) := by rw [Lib.cell_of_heap HK8_11.out]; rfl
  have c86 : V11.cell? ⟨V5.heap.size, 6, none⟩ = some (.int .i64 S'.faults) := by rw [Lib.cell_of_heap HK8_11.out]; rfl
  have c87 : V11.cell? ⟨V5.heap.size, 7, none⟩ = some (.int .i64 c) := by rw [Lib.cell_of_heap HK8_11.out]; rfl
  have ce0 : V11.cell? ⟨V10.heap.size, 0, none⟩ = some (.int .i64 S'.status) := by rw [Lib.cell_of_heap HKe_11.out]; rfl
  have ce1 : V11.cell? ⟨V10.heap.size, 1, none⟩ = some (.int .i64 S'.begun) := by rw [Lib.cell_of_heap HKe_11.out]; rfl
  have ce2 : V11.cell? ⟨V10.heap.size, 2, none⟩ = some (.int .i64 S'.last) := by rw [Lib.cell_of_heap HKe_11.out]; rfl
  have ce3 : V11.cell? ⟨V10.heap.size, 3, none⟩ = some (.slice x3q S'.wait.length y3q) := by rw [Lib.cell_of_heap HKe_11.out]; rfl
  have ce4 : V11.cell? ⟨V10.heap.size, 4, none⟩ = some (.slice x4q S'.busy.length y4q) := by rw [Lib.cell_of_heap HKe_11.out]; rfl
  have ce5 : V11.cell? ⟨V10.heap.size, 5, none⟩ = some (.slice x5q S'.vars.length y5q) := by rw [Lib.cell_of_heap HKe_11.out]; rfl
  have ce6 : V11.cell? ⟨V10.heap.size, 6, none⟩ = some (.int .i64 S'.faults) := by rw [Lib.cell_of_heap HKe_11.out]; rfl
  have ce7 : V11.cell? ⟨V10.heap.size, 7, none⟩ = some (.int .i64 c) := by rw [Lib.cell_of_heap HKe_11.out]; rfl
  go_wp2_with fail
  refine (eqStateOut_same _ _ c S' _ _ _ _ _ _ _ HOe_11.out HO8_11.out (Nat.le_trans hw3 (by decide)) (Nat.le_trans hw4 (by decide)) (Nat.le_trans hw5 (by decide))).mono ?_
  rintro x V12 ⟨rfl, hb12⟩
  clear c80 c81 c82 c83 c84 c85 c86 c87 ce0 ce1 ce2 ce3 ce4 ce5 ce6 ce7
  have HC12 := hid (HC11.out.trans (hb12.mono HC11.out.size))
  have HB12 := hid (HB11.out.trans (hb12.mono HB11.out.size))
  have hz12 := hb12.size
  have HK8_12 := hid ((hb12.block _ (lt_heap HK8_11.out)).trans HK8_11.out)
  have HKd_12 := hid ((hb12.block _ (lt_heap HKd_11.out)).trans HKd_11.out)
  have HKe_12 := hid ((hb12.block _ (lt_heap HKe_11.out)).trans HKe_11.out)
  have HO8_12 := hid (StOwn.stay HO8_11.out hb12)
  have HOd_12 := hid (DefOwn.stay HOd_11.out hb12)
  have HOu_12 := hid (ownB_stay HOu_11.out hb12)
  have HOe_12 := hid (StOwn.stay HOe_11.out hb12)
  clear HK8_11 HKd_11 HKe_11 HO8_11 HOd_11 HOu_11 HOe_11
  clear hb12
  have ca0 := (HC12.out.cell (p := ⟨w.heap.size, 0, none⟩) (by show w.heap.size < _; omega)).trans Kd0.out
  have ca1 := (HC12.out.cell (p := ⟨w.heap.size, 1, none⟩) (by show w.heap.size < _; omega)).trans Kd1.out
  have cd0 : V12.cell? ⟨V7.heap.size, 0, none⟩ = some (.slice d1 ss.length f1) := by rw [Lib.cell_of_heap HKd_12.out]; rfl
  have cd1 : V12.cell? ⟨V7.heap.size, 1, none⟩ = some (.slice d2 fs.length f2) := by rw [Lib.cell_of_heap HKd_12.out]; rfl
  have hlA : w.heap.size < V12.heap.size := by have := HC12.out.size; omega
  have hlB : V7.heap.size < V12.heap.size := lt_heap HKd_12.out
  have hbR : Below V12.heap.size V12 V12.drew := (Below.refl _ _).drew
  go_wp2_with fail
  go_region_held3 (fun w' => w'.cell? ⟨w.heap.size, 0, none⟩ = some (.slice a1 ss.length k1) ∧ w'.cell? ⟨w.heap.size, 1, none⟩ = some (.slice a2 fs.length k2) ∧ w'.cell? ⟨V7.heap.size, 0, none⟩ = some (.slice d1 ss.length f1) ∧ w'.cell? ⟨V7.heap.size, 1, none⟩ = some (.slice d2 fs.length f2) ∧ Below V12.heap.size V12 w') (go_keep) (first | (go_at_call 11; refine (toDef_own a1 a2 k1 k2 ss fs _ ((HD.out.stay HB12.out).stay hbR) m1 m2).mono ?_; rintro x V13 ⟨i1, i2, j1, j2, rfl, hD13, hq13⟩; have hb13 := hbR.trans (hq13.mono hbR.size); have ka0_13 := (hb13.cell (p := ⟨w.heap.size, 0, none⟩) hlA).trans ca0; have ka1_13 := (hb13.cell (p := ⟨w.heap.size, 1, none⟩) hlA).trans ca1; have kb0_13 := (hb13.cell (p := ⟨V7.heap.size, 0, none⟩) hlB).trans cd0; have kb1_13 := (hb13.cell (p := ⟨V7.heap.size, 1, none⟩) hlB).trans cd1) | (go_at_call 14; refine (eqDef_same d1 d2 i1 i2 f1 f2 j1 j2 ss fs _ (HOd_12.out.stay hb13).sl.h1 (HOd_12.out.stay hb13).sl.h2 hD13.sl.h1 hD13.sl.h2 (Nat.le_trans m1 (by decide)) (Nat.le_trans m2 (by decide))).mono ?_; rintro x V14 ⟨rfl, hq14⟩; have hb14 := hb13.trans (hq14.mono hb13.size); have ka0_14 := (hb14.cell (p := ⟨w.heap.size, 0, none⟩) hlA).trans ca0; have ka1_14 := (hb14.cell (p := ⟨w.heap.size, 1, none⟩) hlA).trans ca1; have kb0_14 := (hb14.cell (p := ⟨V7.heap.size, 0, none⟩) hlB).trans cd0; have kb1_14 := (hb14.cell (p := ⟨V7.heap.size, 1, none⟩) hlB).trans cd1))
  have HC14 := hid (HC12.out.trans (hb14.mono HC12.out.size))
  have HB14 := hid (HB12.out.trans (hb14.mono HB12.out.size))
  have hz14 := hb14.size
  have HK8_14 := hid ((hb14.block _ (lt_heap HK8_12.out)).trans HK8_12.out)
  have HKd_14 := hid ((hb14.block _ (lt_heap HKd_12.out)).trans HKd_12.out)
  have HKe_14 := hid ((hb14.block _ (lt_heap HKe_12.out)).trans HKe_12.out)
  have HO8_14 := hid (StOwn.stay HO8_12.out hb14)
  have HOd_14 := hid (DefOwn.stay HOd_12.out hb14)
  have HOu_14 := hid (ownB_stay HOu_12.out hb14)
  have HOe_14 := hid (StOwn.stay HOe_12.out hb14)
  clear HK8_12 HKd_12 HKe_12 HO8_12 HOd_12 HOu_12 HOe_12
  clear hlA hlB hbR hq13 hD13 hb13 hq14 hb14 ka0_13 ka0_14 ka1_13 ka1_14 kb0_13 kb0_14 kb1_13 kb1_14
  clear cd0 cd1
  clear ca0 ca1
  go_wp2_with fail
  refine (toEventS_any (.slice a6 es.length k6) es _ (HV.out.stay HB14.out (Nat.le_refl _)) m6).mono ?_
  rintro x V15 ⟨vv, rfl, hu15, hb15⟩
  obtain ⟨p6z, q6z, rfl⟩ := ownB_form hu15
  have HC15 := hid (HC14.out.trans (hb15.mono HC14.out.size))
  have HB15 := hid (HB14.out.trans (hb15.mono HB14.out.size))
  have hz15 := hb15.size
  have HK8_15 := hid ((hb15.block _ (lt_heap HK8_14.out)).trans HK8_14.out)
  have HKd_15 := hid ((hb15.block _ (lt_heap HKd_14.out)).trans HKd_14.out)
  have HKe_15 := hid ((hb15.block _ (lt_heap HKe_14.out)).trans HKe_14.out)
  have HO8_15 := hid (StOwn.stay HO8_14.out hb15)
  have HOd_15 := hid (DefOwn.stay HOd_14.out hb15)
  have HOu_15 := hid (ownB_stay HOu_14.out hb15)
  have HOe_15 := hid (StOwn.stay HOe_14.out hb15)
  clear HK8_14 HKd_14 HKe_14 HO8_14 HOd_14 HOu_14 HOe_14
  have cc := hid (eqEventS_any (.slice p6 es.length q6) (.slice p6z es.length q6z) es V15 (sl_of_own HOu_15.out) (sl_of_own hu15) (Nat.le_trans m6 (by decide)))
  clear hb15 hu15
  go_wp2_with fail
  refine cc.out.mono ?_
  rintro x V16 ⟨rfl, hb16⟩
  have HC16 := hid (HC15.out.trans (hb16.mono HC15.out.size))
  have HB16 := hid (HB15.out.trans (hb16.mono HB15.out.size))
  have hz16 := hb16.size
  have HK8_16 := hid ((hb16.block _ (lt_heap HK8_15.out)).trans HK8_15.out)
  have HKd_16 := hid ((hb16.block _ (lt_heap HKd_15.out)).trans HKd_15.out)
  have HKe_16 := hid ((hb16.block _ (lt_heap HKe_15.out)).trans HKe_15.out)
  have HO8_16 := hid (StOwn.stay HO8_15.out hb16)
  have HOd_16 := hid (DefOwn.stay HOd_15.out hb16)
  have HOu_16 := hid (ownB_stay HOu_15.out hb16)
  have HOe_16 := hid (StOwn.stay HOe_15.out hb16)
  clear HK8_15 HKd_15 HKe_15 HO8_15 HOd_15 HOu_15 HOe_15
  clear hb16 cc
  have cd0 : V16.cell? ⟨V7.heap.size, 0, none⟩ = some (.slice d1 ss.length f1) := by rw [Lib.cell_of_heap HKd_16.out]; rfl
  have cd1 : V16.cell? ⟨V7.heap.size, 1, none⟩ = some (.slice d2 fs.length f2) := by rw [Lib.cell_of_heap HKd_16.out]; rfl
  go_wp2_with fail
  refine (markDef_own _ ss.length fs.length 1 _ _ _ _ _ HOd_16.out.o1 HOd_16.out.o2 (by decide) (by omega)).mono ?_
  rintro x V17 ⟨rfl, hc17⟩
  clear cd0 cd1
  have HC17 := hid (HC16.out.trans (hc17.below HC16.out.size (fun j h => by have := Hdl.out j h; have := HC6.out.size; omega)))
  have HB17 := hid (HB16.out.trans (hc17.below HB16.out.size (fun j h => by have := Hdl.out j h; have := HB6.out.size; omega)))
  have hz17 := hc17.size
  have HK8_17 := hid ((hc17.block _ (lt_heap HK8_16.out) (fun h => h.elim (fun h => own_ne HOd_16.out.o1 HK8_16.out (by decide) _ h rfl) (fun h => own_ne HOd_16.out.o2 HK8_16.out (by decide) _ h rfl))).trans HK8_16.out)
  have HKe_17 := hid ((hc17.block _ (lt_heap HKe_16.out) (fun h => h.elim (fun h => own_ne HOd_16.out.o1 HKe_16.out (by decide) _ h rfl) (fun h => own_ne HOd_16.out.o2 HKe_16.out (by decide) _ h rfl))).trans HKe_16.out)
  have HO8_17 := hid (HO8_16.out.chgT hc17 (fun g hg h => by have := H8l.out g (Or.inl hg); have := Hdl.out g h; omega) (fun g hg h => by have := H8l.out g (Or.inr (Or.inl hg)); have := Hdl.out g h; omega) (fun g hg h => by have := H8l.out g (Or.inr (Or.inr hg)); have := Hdl.out g h; omega))
  have HOu_17 := hid (own_chg HOu_16.out hc17 (fun g hg h => by have := Hul.out g hg; have := Hdl.out g h; omega))
  have HOe_17 := hid (HOe_16.out.chgT hc17 (fun g hg h => by have := Hel.out g (Or.inl hg); have := Hdl.out g h; omega) (fun g hg h => by have := Hel.out g (Or.inr (Or.inl hg)); have := Hdl.out g h; omega) (fun g hg h => by have := Hel.out g (Or.inr (Or.inr hg)); have := Hdl.out g h; omega))
  clear HK8_16 HKd_16 HKe_16 HO8_16 HOd_16 HOu_16 HOe_16 hc17
  have hK1 : 0 < (1 + (ss.length : Int) + 2 * (fs.length : Int)) ∧ (1 + (ss.length : Int) + 2 * (fs.length : Int)) ≤ 4000000 := by omega
  generalize (1 + (ss.length : Int) + 2 * (fs.length : Int)) = K1 at *
  go_wp2_with fail
  refine (markEventS_own _ es.length _ K1 _ _ HOu_17.out hK1.1 (by omega)).mono ?_
  rintro x V18 ⟨rfl, hc18⟩
  have HC18 := hid (HC17.out.trans (hc18.below HC17.out.size (fun j h => by have := Hul.out j h; have := HC6.out.size; omega)))
  have HB18 := hid (HB17.out.trans (hc18.below HB17.out.size (fun j h => by have := Hul.out j h; have := HB6.out.size; omega)))
  have hz18 := hc18.size
  have HK8_18 := hid ((hc18.block _ (lt_heap HK8_17.out) (fun h => own_ne HOu_17.out HK8_17.out (by decide) _ h rfl)).trans HK8_17.out)
  have HKe_18 := hid ((hc18.block _ (lt_heap HKe_17.out) (fun h => own_ne HOu_17.out HKe_17.out (by decide) _ h rfl)).trans HKe_17.out)
  have HO8_18 := hid (HO8_17.out.chgT hc18 (fun g hg h => by have := H8l.out g (Or.inl hg); have := Hul.out g h; omega) (fun g hg h => by have := H8l.out g (Or.inr (Or.inl hg)); have := Hul.out g h; omega) (fun g hg h => by have := H8l.out g (Or.inr (Or.inr hg)); have := Hul.out g h; omega))
  have HOe_18 := hid (HOe_17.out.chgT hc18 (fun g hg h => by have := Hel.out g (Or.inl hg); have := Hul.out g h; omega) (fun g hg h => by have := Hel.out g (Or.inr (Or.inl hg)); have := Hul.out g h; omega) (fun g hg h => by have := Hel.out g (Or.inr (Or.inr hg)); have := Hul.out g h; omega))
  clear HK8_17 HKe_17 HO8_17 HOu_17 HOe_17 hc18
  have hK2 : 0 < K1 + 6 * (es.length : Int) := by omega
  generalize K1 + 6 * (es.length : Int) = K2 at *
  have hK2n : decide (K2 < 0) = false := by simp; omega
  have c80 : V18.cell? ⟨V5.heap.size, 0, none⟩ = some (.int .i64 S'.status) := by rw [Lib.cell_of_heap HK8_18.out]; rfl
  have c81 : V18.cell? ⟨V5.heap.size, 1, none⟩ = some (.int .i64 S'.begun) := by rw [Lib.cell_of_heap HK8_18.out]; rfl
  have c82 : V18.cell? ⟨V5.heap.size, 2, none⟩ = some (.int .i64 S'.last) := by rw [Lib.cell_of_heap HK8_18.out]; rfl
  have c83 : V18.cell? ⟨V5.heap.size, 3, none⟩ = some (.slice x3 S'.wait.length y3) := by rw [Lib.cell_of_heap HK8_18.out]; rfl
  have c84 : V18.cell? ⟨V5.heap.size, 4, none⟩ = some (.slice x4 S'.busy.length y4) := by rw [Lib.cell_of_heap HK8_18.out]; rfl
  have c85 : V18.cell? ⟨V5.heap.size, 5, none⟩ = some (.slice x5 S'.vars.length y5) := by rw [Lib.cell_of_heap HK8_18.out]; rfl
  have c86 : V18.cell? ⟨V5.heap.size, 6, none⟩ = some (.int .i64 S'.faults) := by rw [Lib.cell_of_heap HK8_18.out]; rfl
  have c87 : V18.cell? ⟨V5.heap.size, 7, none⟩ = some (.int .i64 c) := by rw [Lib.cell_of_heap HK8_18.out]; rfl
  have ce0 : V18.cell? ⟨V10.heap.size, 0, none⟩ = some (.int .i64 S'.status) := by rw [Lib.cell_of_heap HKe_18.out]; rfl
  have ce1 : V18.cell? ⟨V10.heap.size, 1, none⟩ = some (.int .i64 S'.begun) := by rw [Lib.cell_of_heap HKe_18.out]; rfl
  have ce2 : V18.cell? ⟨V10.heap.size, 2, none⟩ = some (.int .i64 S'.last) := by rw [Lib.cell_of_heap HKe_18.out]; rfl
  have ce3 : V18.cell? ⟨V10.heap.size, 3, none⟩ = some (.slice x3q S'.wait.length y3q) := by rw [Lib.cell_of_heap HKe_18.out]; rfl
  have ce4 : V18.cell? ⟨V10.heap.size, 4, none⟩ = some (.slice x4q S'.busy.length y4q) := by rw [Lib.cell_of_heap HKe_18.out]; rfl
  have ce5 : V18.cell? ⟨V10.heap.size, 5, none⟩ = some (.slice x5q S'.vars.length y5q) := by rw [Lib.cell_of_heap HKe_18.out]; rfl
  have ce6 : V18.cell? ⟨V10.heap.size, 6, none⟩ = some (.int .i64 S'.faults) := by rw [Lib.cell_of_heap HKe_18.out]; rfl
  have ce7 : V18.cell? ⟨V10.heap.size, 7, none⟩ = some (.int .i64 c) := by rw [Lib.cell_of_heap HKe_18.out]; rfl
  go_wp2_with fail
  refine (eqStateOut_same _ _ c S' _ _ _ _ _ _ _ HOe_18.out HO8_18.out (Nat.le_trans hw3 (by decide)) (Nat.le_trans hw4 (by decide)) (Nat.le_trans hw5 (by decide))).mono ?_
  rintro x V19 ⟨rfl, hb19⟩
  clear c80 c81 c82 c83 c84 c85 c86 c87 ce0 ce1 ce2 ce3 ce4 ce5 ce6 ce7
  have HC19 := hid (HC18.out.trans (hb19.mono HC18.out.size))
  have HB19 := hid (HB18.out.trans (hb19.mono HB18.out.size))
  have hz19 := hb19.size
  have HK8_19 := hid ((hb19.block _ (lt_heap HK8_18.out)).trans HK8_18.out)
  have HKe_19 := hid ((hb19.block _ (lt_heap HKe_18.out)).trans HKe_18.out)
  have HO8_19 := hid (StOwn.stay HO8_18.out hb19)
  have HOe_19 := hid (StOwn.stay HOe_18.out hb19)
  clear HK8_18 HKe_18 HO8_18 HOe_18
  clear hb19
  have ce0 : V19.cell? ⟨V10.heap.size, 0, none⟩ = some (.int .i64 S'.status) := by rw [Lib.cell_of_heap HKe_19.out]; rfl
  have ce1 : V19.cell? ⟨V10.heap.size, 1, none⟩ = some (.int .i64 S'.begun) := by rw [Lib.cell_of_heap HKe_19.out]; rfl
  have ce2 : V19.cell? ⟨V10.heap.size, 2, none⟩ = some (.int .i64 S'.last) := by rw [Lib.cell_of_heap HKe_19.out]; rfl
  have ce3 : V19.cell? ⟨V10.heap.size, 3, none⟩ = some (.slice x3q S'.wait.length y3q) := by rw [Lib.cell_of_heap HKe_19.out]; rfl
  have ce4 : V19.cell? ⟨V10.heap.size, 4, none⟩ = some (.slice x4q S'.busy.length y4q) := by rw [Lib.cell_of_heap HKe_19.out]; rfl
  have ce5 : V19.cell? ⟨V10.heap.size, 5, none⟩ = some (.slice x5q S'.vars.length y5q) := by rw [Lib.cell_of_heap HKe_19.out]; rfl
  have ce6 : V19.cell? ⟨V10.heap.size, 6, none⟩ = some (.int .i64 S'.faults) := by rw [Lib.cell_of_heap HKe_19.out]; rfl
  have ce7 : V19.cell? ⟨V10.heap.size, 7, none⟩ = some (.int .i64 c) := by rw [Lib.cell_of_heap HKe_19.out]; rfl
  go_wp2_with fail
  refine (markStateOut_own _ c S' _ _ _ _ HOe_19.out (by omega)).mono ?_
  rintro x V20 ⟨rfl, hM, hc20⟩
  clear ce0 ce1 ce2 ce3 ce4 ce5 ce6 ce7
  have HC20 := hid (HC19.out.trans (hc20.below HC19.out.size (fun j h => by have := Hel.out j h; have := HC6.out.size; omega)))
  have HB20 := hid (HB19.out.trans (hc20.below HB19.out.size (fun j h => by have := Hel.out j h; have := HB6.out.size; omega)))
  have hz20 := hc20.size
  have HK8_20 := hid ((hc20.block _ (lt_heap HK8_19.out) (fun h => by rcases h with h | h | h; exact own_ne HOe_19.out.o3 HK8_19.out (by decide) _ h rfl; exact own_ne HOe_19.out.o4 HK8_19.out (by decide) _ h rfl; exact own_ne HOe_19.out.o5 HK8_19.out (by decide) _ h rfl)).trans HK8_19.out)
  have HKe_20 := hid ((hc20.block _ (lt_heap HKe_19.out) (fun h => by rcases h with h | h | h; exact own_ne HOe_19.out.o3 HKe_19.out (by decide) _ h rfl; exact own_ne HOe_19.out.o4 HKe_19.out (by decide) _ h rfl; exact own_ne HOe_19.out.o5 HKe_19.out (by decide) _ h rfl)).trans HKe_19.out)
  have HO8_20 := hid (HO8_19.out.chgT hc20 (fun g hg h => by have := H8l.out g (Or.inl hg); have := Hel.out g h; omega) (fun g hg h => by have := H8l.out g (Or.inr (Or.inl hg)); have := Hel.out g h; omega) (fun g hg h => by have := H8l.out g (Or.inr (Or.inr hg)); have := Hel.out g h; omega))
  clear HK8_19 HKe_19 HO8_19 HOe_19 hc20
  have HM_20 := hid hM
  clear hM
  have ce0 : V20.cell? ⟨V10.heap.size, 0, none⟩ = some (.int .i64 S'.status) := by rw [Lib.cell_of_heap HKe_20.out]; rfl
  have ce1 : V20.cell? ⟨V10.heap.size, 1, none⟩ = some (.int .i64 S'.begun) := by rw [Lib.cell_of_heap HKe_20.out]; rfl
  have ce2 : V20.cell? ⟨V10.heap.size, 2, none⟩ = some (.int .i64 S'.last) := by rw [Lib.cell_of_heap HKe_20.out]; rfl
  have ce3 : V20.cell? ⟨V10.heap.size, 3, none⟩ = some (.slice x3q S'.wait.length y3q) := by rw [Lib.cell_of_heap HKe_20.out]; rfl
  have ce4 : V20.cell? ⟨V10.heap.size, 4, none⟩ = some (.slice x4q S'.busy.length y4q) := by rw [Lib.cell_of_heap HKe_20.out]; rfl
  have ce5 : V20.cell? ⟨V10.heap.size, 5, none⟩ = some (.slice x5q S'.vars.length y5q) := by rw [Lib.cell_of_heap HKe_20.out]; rfl
  have ce6 : V20.cell? ⟨V10.heap.size, 6, none⟩ = some (.int .i64 S'.faults) := by rw [Lib.cell_of_heap HKe_20.out]; rfl
  have ce7 : V20.cell? ⟨V10.heap.size, 7, none⟩ = some (.int .i64 c) := by rw [Lib.cell_of_heap HKe_20.out]; rfl
  go_wp2_with fail
  refine (heldStateOut_own _ _ _ _ c S'.status S'.begun S'.last S'.faults _ _ _ _ HM_20.out (by omega)).mono ?_
  rintro x V21 ⟨rfl, hb21⟩
  clear ce0 ce1 ce2 ce3 ce4 ce5 ce6 ce7
  have HO8_21 := hid (HO8_20.out.stay hb21)
  have HM_21 := hid (HM_20.out.stay hb21)
  have HK8_21 := hid ((hb21.block _ (lt_heap HK8_20.out)).trans HK8_20.out)
  have HKe_21 := hid ((hb21.block _ (lt_heap HKe_20.out)).trans HKe_20.out)
  have HC21 := hid (HC20.out.trans (hb21.mono HC20.out.size))
  have HB21 := hid (HB20.out.trans (hb21.mono HB20.out.size))
  have hz21 := hb21.size
  clear HO8_20 HM_20 HK8_20 HKe_20 hb21
  have hK3 : 0 < 1 + (S'.wait.length : Int) + (S'.busy.length : Int) + 2 * (S'.vars.length : Int) := by omega
  have cH := hid (fun V (hV : Below V21.heap.size V21 V) => heldStateOut_own _ _ _ _ c S'.status S'.begun S'.last S'.faults _ _ _ V (HM_21.out.stay hV) (by omega))
  generalize 1 + (S'.wait.length : Int) + (S'.busy.length : Int) + 2 * (S'.vars.length : Int) = K3 at *
  have hK3n : decide (K3 < 0) = false := by simp; omega
  have hR21 := Below.refl V21.heap.size V21
  have ca0 := (HC21.out.cell (p := ⟨w.heap.size, 0, none⟩) (by show w.heap.size < _; omega)).trans Kd0.out
  have ca1 := (HC21.out.cell (p := ⟨w.heap.size, 1, none⟩) (by show w.heap.size < _; omega)).trans Kd1.out
  go_wp2_with fail
  refine (toDef_own a1 a2 k1 k2 ss fs _ (HD.out.stay HB21.out) m1 m2).mono ?_
  rintro x V22 ⟨p1p, p2p, q1p, q2p, rfl, hO22, hb22⟩
  clear ca0 ca1
  have HC22 := hid (HC21.out.trans (hb22.mono HC21.out.size))
  have HB22 := hid (HB21.out.trans (hb22.mono HB21.out.size))
  have hz22 := hb22.size
  have HK8_22 := hid ((hb22.block _ (lt_heap HK8_21.out)).trans HK8_21.out)
  have HKe_22 := hid ((hb22.block _ (lt_heap HKe_21.out)).trans HKe_21.out)
  have HO8_22 := hid (StOwn.stay HO8_21.out hb22)
  clear HK8_21 HKe_21 HO8_21
  have hR22 := hR21.trans (hb22.mono hR21.size)
  clear hR21
  clear hb22
  go_wp2_with fail
  refine (toEventS_any (.slice a6 es.length k6) es _ (HV.out.stay HB22.out (Nat.le_refl _)) m6).mono ?_
  rintro x V23 ⟨vv, rfl, hu23, hb23⟩
  obtain ⟨p6p, q6p, rfl⟩ := ownB_form hu23
  have HC23 := hid (HC22.out.trans (hb23.mono HC22.out.size))
  have HB23 := hid (HB22.out.trans (hb23.mono HB22.out.size))
  have hz23 := hb23.size
  have HK8_23 := hid ((hb23.block _ (lt_heap HK8_22.out)).trans HK8_22.out)
  have HKe_23 := hid ((hb23.block _ (lt_heap HKe_22.out)).trans HKe_22.out)
  have HO8_23 := hid (StOwn.stay HO8_22.out hb23)
  clear HK8_22 HKe_22 HO8_22
  have hR23 := hR22.trans (hb23.mono hR22.size)
  clear hR22
  have cc := hid (cIm.out p1p p2p p6p q1p q2p q6p V23 (hO22.stay hb23).sl (sl_of_own hu23) (HE.out.stay HB23.out))
  clear hb23 hO22 hu23
  go_wp2_with fail
  refine cc.out.mono ?_
  rintro x V24 ⟨z3, z4, z5, rfl, hO24, hb24⟩
  obtain ⟨x3p, x4p, x5p, y3p, y4p, y5p, rfl, rfl, rfl⟩ := hO24.forms
  have HC24 := hid (HC23.out.trans (hb24.mono HC23.out.size))
  have HB24 := hid (HB23.out.trans (hb24.mono HB23.out.size))
  have hz24 := hb24.size
  have HK8_24 := hid ((hb24.block _ (lt_heap HK8_23.out)).trans HK8_23.out)
  have HKe_24 := hid ((hb24.block _ (lt_heap HKe_23.out)).trans HKe_23.out)
  have HO8_24 := hid (StOwn.stay HO8_23.out hb24)
  clear HK8_23 HKe_23 HO8_23
  have hR24 := hR23.trans (hb24.mono hR23.size)
  clear hR23
  clear hb24 cc
  have hb25 : Below V24.heap.size V24 (V24.alloc (.cells #[.int .i64 S'.status, .int .i64 S'.begun, .int .i64 S'.last, .slice x3p S'.wait.length y3p, .slice x4p S'.busy.length y4p, .slice x5p S'.vars.length y5p, .int .i64 S'.faults, .int .i64 c] 43)) := (Below.refl _ _).alloc (Nat.le_refl _) _
  have HC25 := hid (HC24.out.trans (hb25.mono HC24.out.size))
  have HB25 := hid (HB24.out.trans (hb25.mono HB24.out.size))
  have hz25 := hb25.size
  have HK8_25 := hid ((hb25.block _ (lt_heap HK8_24.out)).trans HK8_24.out)
  have HKe_25 := hid ((hb25.block _ (lt_heap HKe_24.out)).trans HKe_24.out)
  have HO8_25 := hid (StOwn.stay HO8_24.out hb25)
  clear HK8_24 HKe_24 HO8_24
  have hR25 := hR24.trans (hb25.mono hR24.size)
  clear hR24
  have hk25 := heap_alloc_new V24 (.cells #[.int .i64 S'.status, .int .i64 S'.begun, .int .i64 S'.last, .slice x3p S'.wait.length y3p, .slice x4p S'.busy.length y4p, .slice x5p S'.vars.length y5p, .int .i64 S'.faults, .int .i64 c] 43)
  have HOn := hid (hO24.stay hb25)
  have Hnl := hid (fun j (h : P3 (.slice x3p S'.wait.length y3p) (.slice x4p S'.busy.length y4p) (.slice x5p S'.vars.length y5p) j) => (by rcases h with h | h | h; exact own_lt hO24.o3 j h; exact own_lt hO24.o4 j h; exact own_lt hO24.o5 j h))
  have hln := lt_heap hk25
  have HKn := hid hk25
  have hsn : V24.heap.size + 1 = (V24.alloc (.cells #[.int .i64 S'.status, .int .i64 S'.begun, .int .i64 S'.last, .slice x3p S'.wait.length y3p, .slice x4p S'.busy.length y4p, .slice x5p S'.vars.length y5p, .int .i64 S'.faults, .int .i64 c] 43)).heap.size := by simp
  clear hb25 hk25 hO24
  unfold outV
  go_upto_region 32 with fail
  generalize (V24.alloc (.cells #[.int .i64 S'.status, .int .i64 S'.begun, .int .i64 S'.last, .slice x3p S'.wait.length y3p, .slice x4p S'.busy.length y4p, .slice x5p S'.vars.length y5p, .int .i64 S'.faults, .int .i64 c] 43)) = V25 at *
  have HKp_25 := HKn
  have HOp_25 := HOn
  clear HKn HOn Hnl hln
  have c80 : V25.cell? ⟨V5.heap.size, 0, none⟩ = some (.int .i64 S'.status) := by rw [Lib.cell_of_heap HK8_25.out]; rfl
  have c81 : V25.cell? ⟨V5.heap.size, 1, none⟩ = some (.int .i64 S'.begun) := by rw [Lib.cell_of_heap HK8_25.out]; rfl
  have c82 : V25.cell? ⟨V5.heap.size, 2, none⟩ = some (.int .i64 S'.last) := by rw [Lib.cell_of_heap HK8_25.out]; rfl
  have c83 : V25.cell? ⟨V5.heap.size, 3, none⟩ = some (.slice x3 S'.wait.length y3) := by rw [Lib.cell_of_heap HK8_25.out]; rfl
  have c84 : V25.cell? ⟨V5.heap.size, 4, none⟩ = some (.slice x4 S'.busy.length y4) := by rw [Lib.cell_of_heap HK8_25.out]; rfl
  have c85 : V25.cell? ⟨V5.heap.size, 5, none⟩ = some (.slice x5 S'.vars.length y5) := by rw [Lib.cell_of_heap HK8_25.out]; rfl
  have c86 : V25.cell? ⟨V5.heap.size, 6, none⟩ = some (.int .i64 S'.faults) := by rw [Lib.cell_of_heap HK8_25.out]; rfl
  have c87 : V25.cell? ⟨V5.heap.size, 7, none⟩ = some (.int .i64 c) := by rw [Lib.cell_of_heap HK8_25.out]; rfl
  have cp0 : V25.cell? ⟨V24.heap.size, 0, none⟩ = some (.int .i64 S'.status) := by rw [Lib.cell_of_heap HKp_25.out]; rfl
  have cp1 : V25.cell? ⟨V24.heap.size, 1, none⟩ = some (.int .i64 S'.begun) := by rw [Lib.cell_of_heap HKp_25.out]; rfl
  have cp2 : V25.cell? ⟨V24.heap.size, 2, none⟩ = some (.int .i64 S'.last) := by rw [Lib.cell_of_heap HKp_25.out]; rfl
  have cp3 : V25.cell? ⟨V24.heap.size, 3, none⟩ = some (.slice x3p S'.wait.length y3p) := by rw [Lib.cell_of_heap HKp_25.out]; rfl
  have cp4 : V25.cell? ⟨V24.heap.size, 4, none⟩ = some (.slice x4p S'.busy.length y4p) := by rw [Lib.cell_of_heap HKp_25.out]; rfl
  have cp5 : V25.cell? ⟨V24.heap.size, 5, none⟩ = some (.slice x5p S'.vars.length y5p) := by rw [Lib.cell_of_heap HKp_25.out]; rfl
  have cp6 : V25.cell? ⟨V24.heap.size, 6, none⟩ = some (.int .i64 S'.faults) := by rw [Lib.cell_of_heap HKp_25.out]; rfl
  have cp7 : V25.cell? ⟨V24.heap.size, 7, none⟩ = some (.int .i64 c) := by rw [Lib.cell_of_heap HKp_25.out]; rfl
  go_wp2_with fail
  refine (eqStateOut_same _ _ c S' _ _ _ _ _ _ _ HOp_25.out HO8_25.out (Nat.le_trans hw3 (by decide)) (Nat.le_trans hw4 (by decide)) (Nat.le_trans hw5 (by decide))).mono ?_
  rintro x V26 ⟨rfl, hb26⟩
  clear c80 c81 c82 c83 c84 c85 c86 c87 cp0 cp1 cp2 cp3 cp4 cp5 cp6 cp7
  have hR26 := hR25.trans (hb26.mono hR25.size)
  have HKe_26 := hid ((hb26.block _ (lt_heap HKe_25.out)).trans HKe_25.out)
  have HB26 := hid (HB25.out.trans (hb26.mono HB25.out.size))
  have ce0 : V26.cell? ⟨V10.heap.size, 0, none⟩ = some (.int .i64 S'.status) := by rw [Lib.cell_of_heap HKe_26.out]; rfl
  have ce1 : V26.cell? ⟨V10.heap.size, 1, none⟩ = some (.int .i64 S'.begun) := by rw [Lib.cell_of_heap HKe_26.out]; rfl
  have ce2 : V26.cell? ⟨V10.heap.size, 2, none⟩ = some (.int .i64 S'.last) := by rw [Lib.cell_of_heap HKe_26.out]; rfl
  have ce3 : V26.cell? ⟨V10.heap.size, 3, none⟩ = some (.slice x3q S'.wait.length y3q) := by rw [Lib.cell_of_heap HKe_26.out]; rfl
  have ce4 : V26.cell? ⟨V10.heap.size, 4, none⟩ = some (.slice x4q S'.busy.length y4q) := by rw [Lib.cell_of_heap HKe_26.out]; rfl
  have ce5 : V26.cell? ⟨V10.heap.size, 5, none⟩ = some (.slice x5q S'.vars.length y5q) := by rw [Lib.cell_of_heap HKe_26.out]; rfl
  have ce6 : V26.cell? ⟨V10.heap.size, 6, none⟩ = some (.int .i64 S'.faults) := by rw [Lib.cell_of_heap HKe_26.out]; rfl
  have ce7 : V26.cell? ⟨V10.heap.size, 7, none⟩ = some (.int .i64 c) := by rw [Lib.cell_of_heap HKe_26.out]; rfl
  go_wp2_with fail
  refine (cH.out _ hR26).mono ?_
  rintro x V27 ⟨rfl, hb27⟩
  have HB27 := hid (HB26.out.trans (hb27.mono HB26.out.size))
  clear ce0 ce1 ce2 ce3 ce4 ce5 ce6 ce7
  go_wp2_with fail
  go_ret
  exact ⟨rfl, HB27.out⟩
end Go.Proofs.YtadidjhcgmeadaaGreatDoor
