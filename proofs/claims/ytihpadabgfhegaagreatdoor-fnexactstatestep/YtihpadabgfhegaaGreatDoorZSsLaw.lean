/-
  The law FnExactStateStep, walked: it answers true. (Made by mksslaw.py.)
-/
import Derived.Test.YtihpadabgfhegaaGreatDoorZLawA2
import Derived.Deep.RegionHeld3
import Derived.Deep.CutRange
namespace Go.Proofs.YtihpadabgfhegaaGreatDoor
open Go.RowKit Go.Sort

set_option maxRecDepth 100000 in
set_option maxHeartbeats 8000000 in
theorem fnExactStateStep_walk (a1 a2 a3 a4 a5 : Option Addr) (k1 k2 k3 k4 k5 : Nat) (ss : List ByteArray) (fs : List Pr) (S : St) (e : Ev) (e0 e1 e2 e3 e4 : Addr) (w : World) (hD : DefSl w a1 a2 k1 k2 ss fs) (hT : StSl w a3 a4 a5 k3 k4 k5 S) (F1 : FitS ss) (F2 : FitP fs) (F3 : FitS S.wait) (F4 : FitS S.busy) (F5 : FitP S.vars) (he : e.step.size ≤ maxLen) (hv : e.val.size ≤ maxLen) (n1 : ss.length ≤ maxLen) (n2 : fs.length ≤ maxLen) (n3 : S.wait.length ≤ maxLen) (n4 : S.busy.length ≤ maxLen) (n5 : S.vars.length ≤ maxLen) (hEr : ErrsAt w e0 e1 e2 e3 e4) :
    Calls Tryz.prog 4 #[defV a1 a2 k1 k2 ss fs, stV a3 a4 a5 k3 k4 k5 S, evV e] w fun x w' => x = .returned (.bool true) ∧ Below w.heap.size w w' := by
  unfold evV
  have hb0 : Below w.heap.size w (((w.alloc (.cells #[.slice a1 ss.length k1, .slice a2 fs.length k2] 49)).alloc (.cells #[.int .i64 S.status, .int .i64 S.begun, .int .i64 S.last, .slice a3 S.wait.length k3, .slice a4 S.busy.length k4, .slice a5 S.vars.length k5, .int .i64 S.faults] 52)).alloc (.cells #[.int .i64 e.seq, .int .i64 e.time, .int .i64 e.run, .int .i64 e.kind, .string e.step, .string e.val] 53)) := below3 _ _ _ _
  have hs0 : (((w.alloc (.cells #[.slice a1 ss.length k1, .slice a2 fs.length k2] 49)).alloc (.cells #[.int .i64 S.status, .int .i64 S.begun, .int .i64 S.last, .slice a3 S.wait.length k3, .slice a4 S.busy.length k4, .slice a5 S.vars.length k5, .int .i64 S.faults] 52)).alloc (.cells #[.int .i64 e.seq, .int .i64 e.time, .int .i64 e.run, .int .i64 e.kind, .string e.step, .string e.val] 53)).heap.size = w.heap.size + 1 + 1 + 1 := by simp
  have Kd0 := hid (show (((w.alloc (.cells #[.slice a1 ss.length k1, .slice a2 fs.length k2] 49)).alloc (.cells #[.int .i64 S.status, .int .i64 S.begun, .int .i64 S.last, .slice a3 S.wait.length k3, .slice a4 S.busy.length k4, .slice a5 S.vars.length k5, .int .i64 S.faults] 52)).alloc (.cells #[.int .i64 e.seq, .int .i64 e.time, .int .i64 e.run, .int .i64 e.kind, .string e.step, .string e.val] 53)).cell? ⟨w.heap.size, 0, none⟩ = some (.slice a1 ss.length k1) by simp [go_sem])
  have Kd1 := hid (show (((w.alloc (.cells #[.slice a1 ss.length k1, .slice a2 fs.length k2] 49)).alloc (.cells #[.int .i64 S.status, .int .i64 S.begun, .int .i64 S.last, .slice a3 S.wait.length k3, .slice a4 S.busy.length k4, .slice a5 S.vars.length k5, .int .i64 S.faults] 52)).alloc (.cells #[.int .i64 e.seq, .int .i64 e.time, .int .i64 e.run, .int .i64 e.kind, .string e.step, .string e.val] 53)).cell? ⟨w.heap.size, 1, none⟩ = some (.slice a2 fs.length k2) by simp [go_sem])
  have Kt0 := hid (show (((w.alloc (.cells #[.slice a1 ss.length k1, .slice a2 fs.length k2] 49)).alloc (.cells #[.int .i64 S.status, .int .i64 S.begun, .int .i64 S.last, .slice a3 S.wait.length k3, .slice a4 S.busy.length k4, .slice a5 S.vars.length k5, .int .i64 S.faults] 52)).alloc (.cells #[.int .i64 e.seq, .int .i64 e.time, .int .i64 e.run, .int .i64 e.kind, .string e.step, .string e.val] 53)).cell? ⟨w.heap.size + 1, 0, none⟩ = some (.int .i64 S.status) by simp [go_sem])
  have Kt1 := hid (show (((w.alloc (.cells #[.slice a1 ss.length k1, .slice a2 fs.length k2] 49)).alloc (.cells #[.int .i64 S.status, .int .i64 S.begun, .int .i64 S.last, .slice a3 S.wait.length k3, .slice a4 S.busy.length k4, .slice a5 S.vars.length k5, .int .i64 S.faults] 52)).alloc (.cells #[.int .i64 e.seq, .int .i64 e.time, .int .i64 e.run, .int .i64 e.kind, .string e.step, .string e.val] 53)).cell? ⟨w.heap.size + 1, 1, none⟩ = some (.int .i64 S.begun) by simp [go_sem])
  have Kt2 := hid (show (((w.alloc (.cells #[.slice a1 ss.length k1, .slice a2 fs.length k2] 49)).alloc (.cells #[.int .i64 S.status, .int .i64 S.begun, .int .i64 S.last, .slice a3 S.wait.length k3, .slice a4 S.busy.length k4, .slice a5 S.vars.length k5, .int .i64 S.faults] 52)).alloc (.cells #[.int .i64 e.seq, .int .i64 e.time, .int .i64 e.run, .int .i64 e.kind, .string e.step, .string e.val] 53)).cell? ⟨w.heap.size + 1, 2, none⟩ = some (.int .i64 S.last) by simp [go_sem])
  have Kt3 := hid (show (((w.alloc (.cells #[.slice a1 ss.length k1, .slice a2 fs.length k2] 49)).alloc (.cells #[.int .i64 S.status, .int .i64 S.begun, .int .i64 S.last, .slice a3 S.wait.length k3, .slice a4 S.busy.length k4, .slice a5 S.vars.length k5, .int .i64 S.faults] 52)).alloc (.cells #[.int .i64 e.seq, .int .i64 e.time, .int .i64 e.run, .int .i64 e.kind, .string e.step, .string e.val] 53)).cell? ⟨w.heap.size + 1, 3, none⟩ = some (.slice a3 S.wait.length k3) by simp [go_sem])
  have Kt4 := hid (show (((w.alloc (.cells #[.slice a1 ss.length k1, .slice a2 fs.length k2] 49)).alloc (.cells #[.int .i64 S.status, .int .i64 S.begun, .int .i64 S.last, .slice a3 S.wait.length k3, .slice a4 S.busy.length k4, .slice a5 S.vars.length k5, .int .i64 S.faults] 52)).alloc (.cells #[.int .i64 e.seq, .int .i64 e.time, .int .i64 e.run, .int .i64 e.kind, .string e.step, .string e.val] 53)).cell? ⟨w.heap.size + 1, 4, none⟩ = some (.slice a4 S.busy.length k4) by simp [go_sem])
  have Kt5 := hid (show (((w.alloc (.cells #[.slice a1 ss.length k1, .slice a2 fs.length k2] 49)).alloc (.cells #[.int .i64 S.status, .int .i64 S.begun, .int .i64 S.last, .slice a3 S.wait.length k3, .slice a4 S.busy.length k4, .slice a5 S.vars.length k5, .int .i64 S.faults] 52)).alloc (.cells #[.int .i64 e.seq, .int .i64 e.time, .int .i64 e.run, .int .i64 e.kind, .string e.step, .string e.val] 53)).cell? ⟨w.heap.size + 1, 5, none⟩ = some (.slice a5 S.vars.length k5) by simp [go_sem])
  have Kt6 := hid (show (((w.alloc (.cells #[.slice a1 ss.length k1, .slice a2 fs.length k2] 49)).alloc (.cells #[.int .i64 S.status, .int .i64 S.begun, .int .i64 S.last, .slice a3 S.wait.length k3, .slice a4 S.busy.length k4, .slice a5 S.vars.length k5, .int .i64 S.faults] 52)).alloc (.cells #[.int .i64 e.seq, .int .i64 e.time, .int .i64 e.run, .int .i64 e.kind, .string e.step, .string e.val] 53)).cell? ⟨w.heap.size + 1, 6, none⟩ = some (.int .i64 S.faults) by simp [go_sem])
  have Ke0 := hid (show (((w.alloc (.cells #[.slice a1 ss.length k1, .slice a2 fs.length k2] 49)).alloc (.cells #[.int .i64 S.status, .int .i64 S.begun, .int .i64 S.last, .slice a3 S.wait.length k3, .slice a4 S.busy.length k4, .slice a5 S.vars.length k5, .int .i64 S.faults] 52)).alloc (.cells #[.int .i64 e.seq, .int .i64 e.time, .int .i64 e.run, .int .i64 e.kind, .string e.step, .string e.val] 53)).cell? ⟨w.heap.size + 1 + 1, 0, none⟩ = some (.int .i64 e.seq) by simp [go_sem])
  have Ke1 := hid (show (((w.alloc (.cells #[.slice a1 ss.length k1, .slice a2 fs.length k2] 49)).alloc (.cells #[.int .i64 S.status, .int .i64 S.begun, .int .i64 S.last, .slice a3 S.wait.length k3, .slice a4 S.busy.length k4, .slice a5 S.vars.length k5, .int .i64 S.faults] 52)).alloc (.cells #[.int .i64 e.seq, .int .i64 e.time, .int .i64 e.run, .int .i64 e.kind, .string e.step, .string e.val] 53)).cell? ⟨w.heap.size + 1 + 1, 1, none⟩ = some (.int .i64 e.time) by simp [go_sem])
  have Ke2 := hid (show (((w.alloc (.cells #[.slice a1 ss.length k1, .slice a2 fs.length k2] 49)).alloc (.cells #[.int .i64 S.status, .int .i64 S.begun, .int .i64 S.last, .slice a3 S.wait.length k3, .slice a4 S.busy.length k4, .slice a5 S.vars.length k5, .int .i64 S.faults] 52)).alloc (.cells #[.int .i64 e.seq, .int .i64 e.time, .int .i64 e.run, .int .i64 e.kind, .string e.step, .string e.val] 53)).cell? ⟨w.heap.size + 1 + 1, 2, none⟩ = some (.int .i64 e.run) by simp [go_sem])
  have Ke3 := hid (show (((w.alloc (.cells #[.slice a1 ss.length k1, .slice a2 fs.length k2] 49)).alloc (.cells #[.int .i64 S.status, .int .i64 S.begun, .int .i64 S.last, .slice a3 S.wait.length k3, .slice a4 S.busy.length k4, .slice a5 S.vars.length k5, .int .i64 S.faults] 52)).alloc (.cells #[.int .i64 e.seq, .int .i64 e.time, .int .i64 e.run, .int .i64 e.kind, .string e.step, .string e.val] 53)).cell? ⟨w.heap.size + 1 + 1, 3, none⟩ = some (.int .i64 e.kind) by simp [go_sem])
  have Ke4 := hid (show (((w.alloc (.cells #[.slice a1 ss.length k1, .slice a2 fs.length k2] 49)).alloc (.cells #[.int .i64 S.status, .int .i64 S.begun, .int .i64 S.last, .slice a3 S.wait.length k3, .slice a4 S.busy.length k4, .slice a5 S.vars.length k5, .int .i64 S.faults] 52)).alloc (.cells #[.int .i64 e.seq, .int .i64 e.time, .int .i64 e.run, .int .i64 e.kind, .string e.step, .string e.val] 53)).cell? ⟨w.heap.size + 1 + 1, 4, none⟩ = some (.string e.step) by simp [go_sem])
  have Ke5 := hid (show (((w.alloc (.cells #[.slice a1 ss.length k1, .slice a2 fs.length k2] 49)).alloc (.cells #[.int .i64 S.status, .int .i64 S.begun, .int .i64 S.last, .slice a3 S.wait.length k3, .slice a4 S.busy.length k4, .slice a5 S.vars.length k5, .int .i64 S.faults] 52)).alloc (.cells #[.int .i64 e.seq, .int .i64 e.time, .int .i64 e.run, .int .i64 e.kind, .string e.step, .string e.val] 53)).cell? ⟨w.heap.size + 1 + 1, 5, none⟩ = some (.string e.val) by simp [go_sem])
  have HB0 := hid hb0
  have HD := hid hD
  have HT := hid hT
  have HE := hid hEr
  have cz1 := hid (szDef_any a1 a2 k1 k2 ss fs 1048576 (((w.alloc (.cells #[.slice a1 ss.length k1, .slice a2 fs.length k2] 49)).alloc (.cells #[.int .i64 S.status, .int .i64 S.begun, .int .i64 S.last, .slice a3 S.wait.length k3, .slice a4 S.busy.length k4, .slice a5 S.vars.length k5, .int .i64 S.faults] 52)).alloc (.cells #[.int .i64 e.seq, .int .i64 e.time, .int .i64 e.run, .int .i64 e.kind, .string e.step, .string e.val] 53)) (hD.h1.stay hb0 (Nat.le_refl _)) (hD.h2.stay hb0 (Nat.le_refl _)) F1 F2 (by decide) (by decide) n1 n2)
  have cSp := hid (fun (p1 p2 p3 p4 p5 : Option Addr) (q1 q2 q3 q4 q5 : Nat) V hD hT => specStateStep_any p1 p2 p3 p4 p5 q1 q2 q3 q4 q5 ss fs S e V hD hT F1 F5 he n1 n2 n3 n4 n5)
  have cIm := hid (fun (p1 p2 p3 p4 p5 : Option Addr) (q1 q2 q3 q4 q5 : Nat) V hD hT hE => implStateStep_any p1 p2 p3 p4 p5 q1 q2 q3 q4 q5 ss fs S e V hD hT F1 F5 he n1 n2 n3 n4 n5 F2 e0 e1 e2 e3 e4 hE)
  unfold evV at cSp cIm
  have hsm := rS_small (ss := ss) (fs := fs) (S := S) (e := e)
  generalize hrs : rS ss fs S e = cs at *
  clear hrs
  obtain ⟨c, S'⟩ := cs
  simp only at hsm cSp cIm
  obtain ⟨hw3, hw4, hw5⟩ := hsm
  have HF := hid (And.intro F3 (And.intro F4 F5))
  have HN := hid (And.intro n3 (And.intro n4 n5))
  have Hev := hid (And.intro he hv)
  clear hD hT hEr hb0 F1 F2 F3 F4 F5 n1 n2 n3 n4 n5 he hv
  go_enter Tryz.func4, Tryz.ntmps4
  go_wp2_with fail
  refine cz1.out.mono ?_
  generalize (((w.alloc (.cells #[.slice a1 ss.length k1, .slice a2 fs.length k2] 49)).alloc (.cells #[.int .i64 S.status, .int .i64 S.begun, .int .i64 S.last, .slice a3 S.wait.length k3, .slice a4 S.busy.length k4, .slice a5 S.vars.length k5, .int .i64 S.faults] 52)).alloc (.cells #[.int .i64 e.seq, .int .i64 e.time, .int .i64 e.run, .int .i64 e.kind, .string e.step, .string e.val] 53)) = V0 at *
  rintro x V1 ⟨r1, rfl, hr1, hb1⟩
  have HC1 := hid hb1
  have HB1 := hid (HB0.out.trans (hb1.mono HB0.out.size))
  have hz1 := hb1.size
  clear hb1 cz1
  rcases hr1 with rfl | ⟨r10, r11, m1, m2⟩
  · go_wp2_with fail
    go_ret
    exact ⟨rfl, HB1.out⟩
  have ct0 := (HC1.out.cell (p := ⟨w.heap.size + 1, 0, none⟩) (by show w.heap.size + 1 < _; omega)).trans Kt0.out
  have ct1 := (HC1.out.cell (p := ⟨w.heap.size + 1, 1, none⟩) (by show w.heap.size + 1 < _; omega)).trans Kt1.out
  have ct2 := (HC1.out.cell (p := ⟨w.heap.size + 1, 2, none⟩) (by show w.heap.size + 1 < _; omega)).trans Kt2.out
  have ct3 := (HC1.out.cell (p := ⟨w.heap.size + 1, 3, none⟩) (by show w.heap.size + 1 < _; omega)).trans Kt3.out
  have ct4 := (HC1.out.cell (p := ⟨w.heap.size + 1, 4, none⟩) (by show w.heap.size + 1 < _; omega)).trans Kt4.out
  have ct5 := (HC1.out.cell (p := ⟨w.heap.size + 1, 5, none⟩) (by show w.heap.size + 1 < _; omega)).trans Kt5.out
  have ct6 := (HC1.out.cell (p := ⟨w.heap.size + 1, 6, none⟩) (by show w.heap.size + 1 < _; omega)).trans Kt6.out
  have cz2 := hid (szState_any a3 a4 a5 k3 k4 k5 S.status S.begun S.last S.faults S.wait S.busy S.vars r1 V1 (HT.out.h3.stay HB1.out (Nat.le_refl _)) (HT.out.h4.stay HB1.out (Nat.le_refl _)) (HT.out.h5.stay HB1.out (Nat.le_refl _)) HF.out.1 HF.out.2.1 HF.out.2.2 r10 r11 HN.out.1 HN.out.2.1 HN.out.2.2)
  go_wp2_with fail
  refine cz2.out.mono ?_
  rintro x V2 ⟨r2, rfl, hr2, hb2⟩
  have HC2 := hid (HC1.out.trans (hb2.mono HC1.out.size))
  have HB2 := hid (HB1.out.trans (hb2.mono HB1.out.size))
  have hz2 := hb2.size
  clear hb2 cz2
  clear ct0 ct1 ct2 ct3 ct4 ct5 ct6
  rcases hr2 with rfl | ⟨r20, r21, m3, m4, m5⟩
  · go_wp2_with fail
    go_ret
    exact ⟨rfl, HB2.out⟩
  have ce0 := (HC2.out.cell (p := ⟨w.heap.size + 1 + 1, 0, none⟩) (by show w.heap.size + 1 + 1 < _; omega)).trans Ke0.out
  have ce1 := (HC2.out.cell (p := ⟨w.heap.size + 1 + 1, 1, none⟩) (by show w.heap.size + 1 + 1 < _; omega)).trans Ke1.out
  have ce2 := (HC2.out.cell (p := ⟨w.heap.size + 1 + 1, 2, none⟩) (by show w.heap.size + 1 + 1 < _; omega)).trans Ke2.out
  have ce3 := (HC2.out.cell (p := ⟨w.heap.size + 1 + 1, 3, none⟩) (by show w.heap.size + 1 + 1 < _; omega)).trans Ke3.out
  have ce4 := (HC2.out.cell (p := ⟨w.heap.size + 1 + 1, 4, none⟩) (by show w.heap.size + 1 + 1 < _; omega)).trans Ke4.out
  have ce5 := (HC2.out.cell (p := ⟨w.heap.size + 1 + 1, 5, none⟩) (by show w.heap.size + 1 + 1 < _; omega)).trans Ke5.out
  have cz3 := hid (szEvent_any e.seq e.time e.run e.kind e.step e.val r2 V2 r20 (by omega) Hev.out.1 Hev.out.2)
  have hr3 : (if (e.step.size : Int) + (e.val.size : Int) ≤ r2 then r2 - (e.step.size : Int) - (e.val.size : Int) else -1) = -1 ∨ 0 ≤ (if (e.step.size : Int) + (e.val.size : Int) ≤ r2 then r2 - (e.step.size : Int) - (e.val.size : Int) else -1) := by split <;> omega
  generalize (if (e.step.size : Int) + (e.val.size : Int) ≤ r2 then r2 - (e.step.size : Int) - (e.val.size : Int) else -1) = r3 at *
  go_wp2_with fail
  refine cz3.out.mono ?_
  rintro x V3 ⟨rfl, hb3⟩
  have HC3 := hid (HC2.out.trans (hb3.mono HC2.out.size))
  have HB3 := hid (HB2.out.trans (hb3.mono HB2.out.size))
  have hz3 := hb3.size
  clear hb3 cz3
  clear ce0 ce1 ce2 ce3 ce4 ce5
  rcases hr3 with rfl | hr3
  · go_wp2_with fail
    go_ret
    exact ⟨rfl, HB3.out⟩
  have cd0 := (HC3.out.cell (p := ⟨w.heap.size, 0, none⟩) (by show w.heap.size < _; omega)).trans Kd0.out
  have cd1 := (HC3.out.cell (p := ⟨w.heap.size, 1, none⟩) (by show w.heap.size < _; omega)).trans Kd1.out
  have ct0 := (HC3.out.cell (p := ⟨w.heap.size + 1, 0, none⟩) (by show w.heap.size + 1 < _; omega)).trans Kt0.out
  have ct1 := (HC3.out.cell (p := ⟨w.heap.size + 1, 1, none⟩) (by show w.heap.size + 1 < _; omega)).trans Kt1.out
  have ct2 := (HC3.out.cell (p := ⟨w.heap.size + 1, 2, none⟩) (by show w.heap.size + 1 < _; omega)).trans Kt2.out
  have ct3 := (HC3.out.cell (p := ⟨w.heap.size + 1, 3, none⟩) (by show w.heap.size + 1 < _; omega)).trans Kt3.out
  have ct4 := (HC3.out.cell (p := ⟨w.heap.size + 1, 4, none⟩) (by show w.heap.size + 1 < _; omega)).trans Kt4.out
  have ct5 := (HC3.out.cell (p := ⟨w.heap.size + 1, 5, none⟩) (by show w.heap.size + 1 < _; omega)).trans Kt5.out
  have ct6 := (HC3.out.cell (p := ⟨w.heap.size + 1, 6, none⟩) (by show w.heap.size + 1 < _; omega)).trans Kt6.out
  have ce0 := (HC3.out.cell (p := ⟨w.heap.size + 1 + 1, 0, none⟩) (by show w.heap.size + 1 + 1 < _; omega)).trans Ke0.out
  have ce1 := (HC3.out.cell (p := ⟨w.heap.size + 1 + 1, 1, none⟩) (by show w.heap.size + 1 + 1 < _; omega)).trans Ke1.out
  have ce2 := (HC3.out.cell (p := ⟨w.heap.size + 1 + 1, 2, none⟩) (by show w.heap.size + 1 + 1 < _; omega)).trans Ke2.out
  have ce3 := (HC3.out.cell (p := ⟨w.heap.size + 1 + 1, 3, none⟩) (by show w.heap.size + 1 + 1 < _; omega)).trans Ke3.out
  have ce4 := (HC3.out.cell (p := ⟨w.heap.size + 1 + 1, 4, none⟩) (by show w.heap.size + 1 + 1 < _; omega)).trans Ke4.out
  have ce5 := (HC3.out.cell (p := ⟨w.heap.size + 1 + 1, 5, none⟩) (by show w.heap.size + 1 + 1 < _; omega)).trans Ke5.out
  have hbd : Below V3.heap.size V3 V3.drew := (Below.refl _ _).drew
  have hbdA : Below V3.heap.size V3 (V3.alloc (.cells #[.int .i64 0, .int .i64 0, .int .i64 0, .slice none 0 0, .slice none 0 0, .slice none 0 0, .int .i64 0, .int .i64 0] 35)).drew := ((Below.refl _ _).alloc (Nat.le_refl _) _).drew
  have ldc : w.heap.size < V3.heap.size := by have := HC3.out.size; omega
  have ndc : ¬ w.heap.size = V3.heap.size := by omega
  have mdc : ¬ V3.heap.size = w.heap.size := by omega
  have ltc : w.heap.size + 1 < V3.heap.size := by have := HC3.out.size; omega
  have ntc : ¬ w.heap.size + 1 = V3.heap.size := by omega
  have mtc : ¬ V3.heap.size = w.heap.size + 1 := by omega
  have lec : w.heap.size + 1 + 1 < V3.heap.size := by have := HC3.out.size; omega
  have nec : ¬ w.heap.size + 1 + 1 = V3.heap.size := by omega
  have mec : ¬ V3.heap.size = w.heap.size + 1 + 1 := by omega
  go_upto_region 11 with fail
  go_cut [8] from 31 to 37 (fun s wx => ∃ (b : Nat) (x3 x4 x5 : Option Addr) (y3 y4 y5 : Nat), s = .pointer (some ⟨b, 0, none⟩) ∧ wx.heap[b]? = some (.cells #[.int .i64 S'.status, .int .i64 S'.begun, .int .i64 S'.last, .slice x3 S'.wait.length y3, .slice x4 S'.busy.length y4, .slice x5 S'.vars.length y5, .int .i64 S'.faults, .int .i64 c] 35 (0, 0)) ∧ StOwn wx V3.heap.size (.slice x3 S'.wait.length y3) (.slice x4 S'.busy.length y4) (.slice x5 S'.vars.length y5) S' ∧ Below V3.heap.size V3 wx)
  case first =>
    go_region_held3 (fun w' => w'.cell? ⟨w.heap.size, 0, none⟩ = some (.slice a1 ss.length k1) ∧ w'.cell? ⟨w.heap.size, 1, none⟩ = some (.slice a2 fs.length k2) ∧ w'.cell? ⟨w.heap.size + 1, 0, none⟩ = some (.int .i64 S.status) ∧ w'.cell? ⟨w.heap.size + 1, 1, none⟩ = some (.int .i64 S.begun) ∧ w'.cell? ⟨w.heap.size + 1, 2, none⟩ = some (.int .i64 S.last) ∧ w'.cell? ⟨w.heap.size + 1, 3, none⟩ = some (.slice a3 S.wait.length k3) ∧ w'.cell? ⟨w.heap.size + 1, 4, none⟩ = some (.slice a4 S.busy.length k4) ∧ w'.cell? ⟨w.heap.size + 1, 5, none⟩ = some (.slice a5 S.vars.length k5) ∧ w'.cell? ⟨w.heap.size + 1, 6, none⟩ = some (.int .i64 S.faults) ∧ w'.cell? ⟨w.heap.size + 1 + 1, 0, none⟩ = some (.int .i64 e.seq) ∧ w'.cell? ⟨w.heap.size + 1 + 1, 1, none⟩ = some (.int .i64 e.time) ∧ w'.cell? ⟨w.heap.size + 1 + 1, 2, none⟩ = some (.int .i64 e.run) ∧ w'.cell? ⟨w.heap.size + 1 + 1, 3, none⟩ = some (.int .i64 e.kind) ∧ w'.cell? ⟨w.heap.size + 1 + 1, 4, none⟩ = some (.string e.step) ∧ w'.cell? ⟨w.heap.size + 1 + 1, 5, none⟩ = some (.string e.val)) (go_keep) (first | (go_at_call 20; refine (toDef_own a1 a2 k1 k2 ss fs _ (by first | exact (HD.out.stay HB3.out).stay hbd | exact (HD.out.stay HB3.out).stay hbdA) m1 m2).mono ?_; rintro x V4 ⟨p1, p2, q1, q2, rfl, hO4, hq4⟩; have hb4 : Below V3.heap.size V3 V4 := (by first | exact hbd.trans (hq4.mono hbd.size) | exact hbdA.trans (hq4.mono hbdA.size)); have nd4 : ¬ w.heap.size = V4.heap.size := (by have := hb4.size; omega); have md4 : ¬ V4.heap.size = w.heap.size := (by have := hb4.size; omega); have nt4 : ¬ w.heap.size + 1 = V4.heap.size := (by have := hb4.size; omega); have mt4 : ¬ V4.heap.size = w.heap.size + 1 := (by have := hb4.size; omega); have ne4 : ¬ w.heap.size + 1 + 1 = V4.heap.size := (by have := hb4.size; omega); have me4 : ¬ V4.heap.size = w.heap.size + 1 + 1 := (by have := hb4.size; omega); have k4d0 := (hb4.cell (p := ⟨w.heap.size, 0, none⟩) ldc).trans cd0; have k4d1 := (hb4.cell (p := ⟨w.heap.size, 1, none⟩) ldc).trans cd1; have k4t0 := (hb4.cell (p := ⟨w.heap.size + 1, 0, none⟩) ltc).trans ct0; have k4t1 := (hb4.cell (p := ⟨w.heap.size + 1, 1, none⟩) ltc).trans ct1; have k4t2 := (hb4.cell (p := ⟨w.heap.size + 1, 2, none⟩) ltc).trans ct2; have k4t3 := (hb4.cell (p := ⟨w.heap.size + 1, 3, none⟩) ltc).trans ct3; have k4t4 := (hb4.cell (p := ⟨w.heap.size + 1, 4, none⟩) ltc).trans ct4; have k4t5 := (hb4.cell (p := ⟨w.heap.size + 1, 5, none⟩) ltc).trans ct5; have k4t6 := (hb4.cell (p := ⟨w.heap.size + 1, 6, none⟩) ltc).trans ct6; have k4e0 := (hb4.cell (p := ⟨w.heap.size + 1 + 1, 0, none⟩) lec).trans ce0; have k4e1 := (hb4.cell (p := ⟨w.heap.size + 1 + 1, 1, none⟩) lec).trans ce1; have k4e2 := (hb4.cell (p := ⟨w.heap.size + 1 + 1, 2, none⟩) lec).trans ce2; have k4e3 := (hb4.cell (p := ⟨w.heap.size + 1 + 1, 3, none⟩) lec).trans ce3; have k4e4 := (hb4.cell (p := ⟨w.heap.size + 1 + 1, 4, none⟩) lec).trans ce4; have k4e5 := (hb4.cell (p := ⟨w.heap.size + 1 + 1, 5, none⟩) lec).trans ce5; have hA4 : Below V4.heap.size V4 (V4.alloc (.cells #[.int .i64 0, .int .i64 0, .int .i64 0, .slice none 0 0, .slice none 0 0, .slice none 0 0, .int .i64 0, .int .i64 0] 35)) := (Below.refl _ _).alloc (Nat.le_refl _) _; (first | have zz4 := (hq4.block V3.heap.size (by simp)).trans (heap_alloc_new V3 _) | skip)) | (go_at_call 21; refine (toState_own a3 a4 a5 k3 k4 k5 S _ (by first | exact (HT.out.stay HB3.out).stay hb4 | exact ((HT.out.stay HB3.out).stay hb4).stay hA4) m3 m4 m5).mono ?_; rintro x V5 ⟨p3, p4, p5, q3, q4, q5, rfl, hO5, hq5⟩; have hb5 : Below V3.heap.size V3 V5 := (by first | exact hb4.trans (hq5.mono hb4.size) | exact (hb4.trans (hA4.mono hb4.size)).trans (hq5.mono (hb4.trans (hA4.mono hb4.size)).size)); have nd5 : ¬ w.heap.size = V5.heap.size := (by have := hb5.size; omega); have md5 : ¬ V5.heap.size = w.heap.size := (by have := hb5.size; omega); have nt5 : ¬ w.heap.size + 1 = V5.heap.size := (by have := hb5.size; omega); have mt5 : ¬ V5.heap.size = w.heap.size + 1 := (by have := hb5.size; omega); have ne5 : ¬ w.heap.size + 1 + 1 = V5.heap.size := (by have := hb5.size; omega); have me5 : ¬ V5.heap.size = w.heap.size + 1 + 1 := (by have := hb5.size; omega); have k5d0 := (hb5.cell (p := ⟨w.heap.size, 0, none⟩) ldc).trans cd0; have k5d1 := (hb5.cell (p := ⟨w.heap.size, 1, none⟩) ldc).trans cd1; have k5t0 := (hb5.cell (p := ⟨w.heap.size + 1, 0, none⟩) ltc).trans ct0; have k5t1 := (hb5.cell (p := ⟨w.heap.size + 1, 1, none⟩) ltc).trans ct1; have k5t2 := (hb5.cell (p := ⟨w.heap.size + 1, 2, none⟩) ltc).trans ct2; have k5t3 := (hb5.cell (p := ⟨w.heap.size + 1, 3, none⟩) ltc).trans ct3; have k5t4 := (hb5.cell (p := ⟨w.heap.size + 1, 4, none⟩) ltc).trans ct4; have k5t5 := (hb5.cell (p := ⟨w.heap.size + 1, 5, none⟩) ltc).trans ct5; have k5t6 := (hb5.cell (p := ⟨w.heap.size + 1, 6, none⟩) ltc).trans ct6; have k5e0 := (hb5.cell (p := ⟨w.heap.size + 1 + 1, 0, none⟩) lec).trans ce0; have k5e1 := (hb5.cell (p := ⟨w.heap.size + 1 + 1, 1, none⟩) lec).trans ce1; have k5e2 := (hb5.cell (p := ⟨w.heap.size + 1 + 1, 2, none⟩) lec).trans ce2; have k5e3 := (hb5.cell (p := ⟨w.heap.size + 1 + 1, 3, none⟩) lec).trans ce3; have k5e4 := (hb5.cell (p := ⟨w.heap.size + 1 + 1, 4, none⟩) lec).trans ce4; have k5e5 := (hb5.cell (p := ⟨w.heap.size + 1 + 1, 5, none⟩) lec).trans ce5; have hA5 : Below V5.heap.size V5 (V5.alloc (.cells #[.int .i64 0, .int .i64 0, .int .i64 0, .slice none 0 0, .slice none 0 0, .slice none 0 0, .int .i64 0, .int .i64 0] 35)) := (Below.refl _ _).alloc (Nat.le_refl _) _; (first | have zz5 := (hq5.block V4.heap.size (by simp)).trans (heap_alloc_new V4 _) | have zz5 := (hq5.block _ (lt_heap zz4)).trans zz4 | skip); have hOa : DefOwn V5 _ _ _ _ _ := (by first | exact hO4.stay hq5 | exact (hO4.stay hA4).stay hq5)) | (go_at_call 22; refine (toEvent_own e _).mono ?_; rintro x V6 ⟨rfl, hq6⟩; have hb6 : Below V3.heap.size V3 V6 := (by first | exact hb5.trans (hq6.mono hb5.size) | exact (hb5.trans (hA5.mono hb5.size)).trans (hq6.mono (hb5.trans (hA5.mono hb5.size)).size)); have nd6 : ¬ w.heap.size = V6.heap.size := (by have := hb6.size; omega); have md6 : ¬ V6.heap.size = w.heap.size := (by have := hb6.size; omega); have nt6 : ¬ w.heap.size + 1 = V6.heap.size := (by have := hb6.size; omega); have mt6 : ¬ V6.heap.size = w.heap.size + 1 := (by have := hb6.size; omega); have ne6 : ¬ w.heap.size + 1 + 1 = V6.heap.size := (by have := hb6.size; omega); have me6 : ¬ V6.heap.size = w.heap.size + 1 + 1 := (by have := hb6.size; omega); have k6d0 := (hb6.cell (p := ⟨w.heap.size, 0, none⟩) ldc).trans cd0; have k6d1 := (hb6.cell (p := ⟨w.heap.size, 1, none⟩) ldc).trans cd1; have k6t0 := (hb6.cell (p := ⟨w.heap.size + 1, 0, none⟩) ltc).trans ct0; have k6t1 := (hb6.cell (p := ⟨w.heap.size + 1, 1, none⟩) ltc).trans ct1; have k6t2 := (hb6.cell (p := ⟨w.heap.size + 1, 2, none⟩) ltc).trans ct2; have k6t3 := (hb6.cell (p := ⟨w.heap.size + 1, 3, none⟩) ltc).trans ct3; have k6t4 := (hb6.cell (p := ⟨w.heap.size + 1, 4, none⟩) ltc).trans ct4; have k6t5 := (hb6.cell (p := ⟨w.heap.size + 1, 5, none⟩) ltc).trans ct5; have k6t6 := (hb6.cell (p := ⟨w.heap.size + 1, 6, none⟩) ltc).trans ct6; have k6e0 := (hb6.cell (p := ⟨w.heap.size + 1 + 1, 0, none⟩) lec).trans ce0; have k6e1 := (hb6.cell (p := ⟨w.heap.size + 1 + 1, 1, none⟩) lec).trans ce1; have k6e2 := (hb6.cell (p := ⟨w.heap.size + 1 + 1, 2, none⟩) lec).trans ce2; have k6e3 := (hb6.cell (p := ⟨w.heap.size + 1 + 1, 3, none⟩) lec).trans ce3; have k6e4 := (hb6.cell (p := ⟨w.heap.size + 1 + 1, 4, none⟩) lec).trans ce4; have k6e5 := (hb6.cell (p := ⟨w.heap.size + 1 + 1, 5, none⟩) lec).trans ce5; have hA6 : Below V6.heap.size V6 (V6.alloc (.cells #[.int .i64 0, .int .i64 0, .int .i64 0, .slice none 0 0, .slice none 0 0, .slice none 0 0, .int .i64 0, .int .i64 0] 35)) := (Below.refl _ _).alloc (Nat.le_refl _) _; (first | have zz6 := (hq6.block V5.heap.size (by simp)).trans (heap_alloc_new V5 _) | have zz6 := (hq6.block _ (lt_heap zz5)).trans zz5 | skip); have hOb : DefOwn V6 _ _ _ _ _ := (by first | exact hOa.stay hq6 | exact (hOa.stay hA5).stay hq6); have hOc : StOwn V6 _ _ _ _ _ := (by first | exact hO5.stay hq6 | exact (hO5.stay hA5).stay hq6)) | (go_at_call 8; refine (cSp.out p1 p2 p3 p4 p5 q1 q2 q3 q4 q5 _ (by first | exact hOb.sl | exact (hOb.stay hA6).sl) (by first | exact hOc.sl | exact (hOc.stay hA6).sl)).mono ?_; rintro x V7 ⟨z3, z4, z5, rfl, hO7, hq7⟩; obtain ⟨x3, x4, x5, y3, y4, y5, rfl, rfl, rfl⟩ := hO7.forms; unfold outV; have hb7 : Below V3.heap.size V3 V7 := (by first | exact hb6.trans (hq7.mono hb6.size) | exact (hb6.trans (hA6.mono hb6.size)).trans (hq7.mono (hb6.trans (hA6.mono hb6.size)).size)); have k7d0 := (hb7.cell (p := ⟨w.heap.size, 0, none⟩) ldc).trans cd0; have k7d1 := (hb7.cell (p := ⟨w.heap.size, 1, none⟩) ldc).trans cd1; have k7t0 := (hb7.cell (p := ⟨w.heap.size + 1, 0, none⟩) ltc).trans ct0; have k7t1 := (hb7.cell (p := ⟨w.heap.size + 1, 1, none⟩) ltc).trans ct1; have k7t2 := (hb7.cell (p := ⟨w.heap.size + 1, 2, none⟩) ltc).trans ct2; have k7t3 := (hb7.cell (p := ⟨w.heap.size + 1, 3, none⟩) ltc).trans ct3; have k7t4 := (hb7.cell (p := ⟨w.heap.size + 1, 4, none⟩) ltc).trans ct4; have k7t5 := (hb7.cell (p := ⟨w.heap.size + 1, 5, none⟩) ltc).trans ct5; have k7t6 := (hb7.cell (p := ⟨w.heap.size + 1, 6, none⟩) ltc).trans ct6; have k7e0 := (hb7.cell (p := ⟨w.heap.size + 1 + 1, 0, none⟩) lec).trans ce0; have k7e1 := (hb7.cell (p := ⟨w.heap.size + 1 + 1, 1, none⟩) lec).trans ce1; have k7e2 := (hb7.cell (p := ⟨w.heap.size + 1 + 1, 2, none⟩) lec).trans ce2; have k7e3 := (hb7.cell (p := ⟨w.heap.size + 1 + 1, 3, none⟩) lec).trans ce3; have k7e4 := (hb7.cell (p := ⟨w.heap.size + 1 + 1, 4, none⟩) lec).trans ce4; have k7e5 := (hb7.cell (p := ⟨w.heap.size + 1 + 1, 5, none⟩) lec).trans ce5; (first | have zz7 := (hq7.block V6.heap.size (by simp)).trans (heap_alloc_new V6 _) | have zz7 := (hq7.block _ (lt_heap zz6)).trans zz6 | skip); (first | (have s0 : V7.cell? ⟨_, 0, none⟩ = some (.int .i64 0) := (by rw [Lib.cell_of_heap zz7]; rfl); have s1 : V7.cell? ⟨_, 1, none⟩ = some (.int .i64 0) := (by rw [Lib.cell_of_heap zz7]; rfl); have s2 : V7.cell? ⟨_, 2, none⟩ = some (.int .i64 0) := (by rw [Lib.cell_of_heap zz7]; rfl); have s3 : V7.cell? ⟨_, 3, none⟩ = some (.slice none 0 0) := (by rw [Lib.cell_of_heap zz7]; rfl); have s4 : V7.cell? ⟨_, 4, none⟩ = some (.slice none 0 0) := (by rw [Lib.cell_of_heap zz7]; rfl); have s5 : V7.cell? ⟨_, 5, none⟩ = some (.slice none 0 0) := (by rw [Lib.cell_of_heap zz7]; rfl); have s6 : V7.cell? ⟨_, 6, none⟩ = some (.int .i64 0) := (by rw [Lib.cell_of_heap zz7]; rfl); have s7 : V7.cell? ⟨_, 7, none⟩ = some (.int .i64 0) := (by rw [Lib.cell_of_heap zz7]; rfl); have sf := Lib.frozen_of_heap zz7) | skip)))
    all_goals go_wp2_with fail
    all_goals go_meet
    all_goals first | (have hst := store8 zz7 (.int .i64 S'.status) (.int .i64 S'.begun) (.int .i64 S'.last) (.slice x3 S'.wait.length y3) (.slice x4 S'.busy.length y4) (.slice x5 S'.vars.length y5) (.int .i64 S'.faults) (.int .i64 c); exact ⟨_, x3, x4, x5, y3, y4, y5, rfl, hst.1, (hO7.turn hst.2 zz7 (by decide) (by decide)).le (by have := hb6.size; first | omega | (simp; omega)), hb7.trans (hst.2.below hb7.size (fun j h => by have e : j = _ := h; have q1 := hb4.size; have q2 := hb5.size; have q3 := hb6.size; subst e; first | omega | simp))⟩) | exact ⟨V7.heap.size, x3, x4, x5, y3, y4, y5, rfl, heap_alloc_new V7 _, (hO7.stay ((Below.refl _ _).alloc (Nat.le_refl _) _)).le (by have := hb6.size; first | omega | (simp; omega)), hb7.trans (((Below.refl _ _).alloc (Nat.le_refl _) _).mono hb7.size)⟩
  case rest =>
    obtain ⟨B8, x3, x4, x5, y3, y4, y5, rfl, hk8, hO8, hb8⟩ := hcut
    rename World => V8
    have HC8 := hid (HC3.out.trans (hb8.mono HC3.out.size))
    have HB8 := hid (HB3.out.trans (hb8.mono HB3.out.size))
    have hz8 := hb8.size
    have hl8 := lt_heap hk8
    have HK8 := hid hk8
    have HO8 := hid hO8
    have H8l := hid (fun j (h : P3 (.slice x3 S'.wait.length y3) (.slice x4 S'.busy.length y4) (.slice x5 S'.vars.length y5) j) => (by rcases h with h | h | h; exact (own_lt hO8.o3 j h).2; exact (own_lt hO8.o4 j h).2; exact (own_lt hO8.o5 j h).2 : j < V8.heap.size))
    clear hk8 hO8 hb8 hbd hbdA
    clear cd0 cd1 ct0 ct1 ct2 ct3 ct4 ct5 ct6 ce0 ce1 ce2 ce3 ce4 ce5
    clear ldc ndc mdc ltc ntc mtc lec nec mec
    have cd0 := (HC8.out.cell (p := ⟨w.heap.size, 0, none⟩) (by show w.heap.size < _; omega)).trans Kd0.out
    have cd1 := (HC8.out.cell (p := ⟨w.heap.size, 1, none⟩) (by show w.heap.size < _; omega)).trans Kd1.out
    go_wp2_with fail
    refine (toDef_own a1 a2 k1 k2 ss fs _ (HD.out.stay HB8.out) m1 m2).mono ?_
    rintro x V9 ⟨d1, d2, f1, f2, rfl, hO9, hb9⟩
    clear cd0 cd1
    have HC9 := hid (HC8.out.trans (hb9.mono HC8.out.size))
    have HB9 := hid (HB8.out.trans (hb9.mono HB8.out.size))
    have hz9 := hb9.size
    have hK8 : V9.heap[B8]? = _ := (hb9.block _ hl8).trans HK8.out
    have hW9 : Below V9.heap.size V9 (V9.alloc (.cells #[.slice d1 ss.length f1, .slice d2 fs.length f2] 26)) := (Below.refl _ _).alloc (Nat.le_refl _) _
    have HC9b := hid (HC9.out.trans (hW9.mono HC9.out.size))
    have HB9b := hid (HB9.out.trans (hW9.mono HB9.out.size))
    have hz9b := hW9.size
    have Hdl := hid (fun j (h : (Value.slice d1 ss.length f1).ownBlock = some j ∨ (Value.slice d2 fs.length f2).ownBlock = some j) => (by rcases h with h | h; exact own_lt hO9.o1 j h; exact own_lt hO9.o2 j h : V8.heap.size ≤ j ∧ j < V9.heap.size))
    have HO9 := hid (hO9.stay hW9)
    have HO8b := hid ((HO8.out.stay hb9).stay hW9)
    have HK8b := hid ((hW9.block _ (Nat.lt_of_lt_of_le hl8 hz9)).trans hK8)
    clear hK8 HK8 HO8 hb9 hO9
    have ct0 := (HC9b.out.cell (p := ⟨w.heap.size + 1, 0, none⟩) (by show w.heap.size + 1 < _; omega)).trans Kt0.out
    have ct1 := (HC9b.out.cell (p := ⟨w.heap.size + 1, 1, none⟩) (by show w.heap.size + 1 < _; omega)).trans Kt1.out
    have ct2 := (HC9b.out.cell (p := ⟨w.heap.size + 1, 2, none⟩) (by show w.heap.size + 1 < _; omega)).trans Kt2.out
    have ct3 := (HC9b.out.cell (p := ⟨w.heap.size + 1, 3, none⟩) (by show w.heap.size + 1 < _; omega)).trans Kt3.out
    have ct4 := (HC9b.out.cell (p := ⟨w.heap.size + 1, 4, none⟩) (by show w.heap.size + 1 < _; omega)).trans Kt4.out
    have ct5 := (HC9b.out.cell (p := ⟨w.heap.size + 1, 5, none⟩) (by show w.heap.size + 1 < _; omega)).trans Kt5.out
    have ct6 := (HC9b.out.cell (p := ⟨w.heap.size + 1, 6, none⟩) (by show w.heap.size + 1 < _; omega)).trans Kt6.out
    go_wp2_with fail
    refine (toState_own a3 a4 a5 k3 k4 k5 S _ (HT.out.stay HB9b.out) m3 m4 m5).mono ?_
    rintro x V10 ⟨d3, d4, d5, f3, f4, f5, rfl, hO10, hb10⟩
    clear ct0 ct1 ct2 ct3 ct4 ct5 ct6
    have HC10 := hid (HC9b.out.trans (hb10.mono HC9b.out.size))
    have HB10 := hid (HB9b.out.trans (hb10.mono HB9b.out.size))
    have hz10 := hb10.size
    have hs9 : V9.heap.size < (V9.alloc (.cells #[.slice d1 ss.length f1, .slice d2 fs.length f2] 26)).heap.size := by simp
    have hW10 : Below V10.heap.size V10 (V10.alloc (.cells #[.int .i64 S.status, .int .i64 S.begun, .int .i64 S.last, .slice d3 S.wait.length f3, .slice d4 S.busy.length f4, .slice d5 S.vars.length f5, .int .i64 S.faults] 29)) := (Below.refl _ _).alloc (Nat.le_refl _) _
    have HC11 := hid (HC10.out.trans (hW10.mono HC10.out.size))
    have HB11 := hid (HB10.out.trans (hW10.mono HB10.out.size))
    have hz11 := hW10.size
    have hd9 := (hW10.block V9.heap.size (by omega)).trans ((hb10.block V9.heap.size hs9).trans (heap_alloc_new V9 _))
    have hd10 := heap_alloc_new V10 (.cells #[.int .i64 S.status, .int .i64 S.begun, .int .i64 S.last, .slice d3 S.wait.length f3, .slice d4 S.busy.length f4, .slice d5 S.vars.length f5, .int .i64 S.faults] 29)
    have HO11d := hid ((HO9.out.stay hb10).stay hW10)
    have HO11t := hid (hO10.stay hW10)
    have HO11 := hid ((HO8b.out.stay hb10).stay hW10)
    have hl11 : B8 < V10.heap.size := by omega
    have HK11 := hid ((hW10.block _ hl11).trans ((hb10.block _ (by omega)).trans HK8b.out))
    have hs10 : V10.heap.size < (V10.alloc (.cells #[.int .i64 S.status, .int .i64 S.begun, .int .i64 S.last, .slice d3 S.wait.length f3, .slice d4 S.busy.length f4, .slice d5 S.vars.length f5, .int .i64 S.faults] 29)).heap.size := by simp
    have Htl := hid (fun j (h : P3 (.slice d3 S.wait.length f3) (.slice d4 S.busy.length f4) (.slice d5 S.vars.length f5) j) => (by rcases h with h | h | h; exact own_lt hO10.o3 j h; exact own_lt hO10.o4 j h; exact own_lt hO10.o5 j h : (V9.alloc (.cells #[.slice d1 ss.length f1, .slice d2 fs.length f2] 26)).heap.size ≤ j ∧ j < V10.heap.size))
    clear hW9 HO9 HO8b HK8b hb10 hO10
    unfold stV
    go_upto_region 14 with fail
    generalize (V10.alloc (.cells #[.int .i64 S.status, .int .i64 S.begun, .int .i64 S.last, .slice d3 S.wait.length f3, .slice d4 S.busy.length f4, .slice d5 S.vars.length f5, .int .i64 S.faults] 29)) = V11 at *
    have cx0 : V11.cell? ⟨V9.heap.size, 0, none⟩ = some (.slice d1 ss.length f1) := by rw [Lib.cell_of_heap hd9]; rfl
    have cx1 : V11.cell? ⟨V9.heap.size, 1, none⟩ = some (.slice d2 fs.length f2) := by rw [Lib.cell_of_heap hd9]; rfl
    have cy0 : V11.cell? ⟨V10.heap.size, 0, none⟩ = some (.int .i64 S.status) := by rw [Lib.cell_of_heap hd10]; rfl
    have cy1 : V11.cell? ⟨V10.heap.size, 1, none⟩ = some (.int .i64 S.begun) := by rw [Lib.cell_of_heap hd10]; rfl
    have cy2 : V11.cell? ⟨V10.heap.size, 2, none⟩ = some (.int .i64 S.last) := by rw [Lib.cell_of_heap hd10]; rfl
    have cy3 : V11.cell? ⟨V10.heap.size, 3, none⟩ = some (.slice d3 S.wait.length f3) := by rw [Lib.cell_of_heap hd10]; rfl
    have cy4 : V11.cell? ⟨V10.heap.size, 4, none⟩ = some (.slice d4 S.busy.length f4) := by rw [Lib.cell_of_heap hd10]; rfl
    have cy5 : V11.cell? ⟨V10.heap.size, 5, none⟩ = some (.slice d5 S.vars.length f5) := by rw [Lib.cell_of_heap hd10]; rfl
    have cy6 : V11.cell? ⟨V10.heap.size, 6, none⟩ = some (.int .i64 S.faults) := by rw [Lib.cell_of_heap hd10]; rfl
    have ce0 := (HC11.out.cell (p := ⟨w.heap.size + 1 + 1, 0, none⟩) (by show w.heap.size + 1 + 1 < _; omega)).trans Ke0.out
    have ce1 := (HC11.out.cell (p := ⟨w.heap.size + 1 + 1, 1, none⟩) (by show w.heap.size + 1 + 1 < _; omega)).trans Ke1.out
    have ce2 := (HC11.out.cell (p := ⟨w.heap.size + 1 + 1, 2, none⟩) (by show w.heap.size + 1 + 1 < _; omega)).trans Ke2.out
    have ce3 := (HC11.out.cell (p := ⟨w.heap.size + 1 + 1, 3, none⟩) (by show w.heap.size + 1 + 1 < _; omega)).trans Ke3.out
    have ce4 := (HC11.out.cell (p := ⟨w.heap.size + 1 + 1, 4, none⟩) (by show w.heap.size + 1 + 1 < _; omega)).trans Ke4.out
    have ce5 := (HC11.out.cell (p := ⟨w.heap.size + 1 + 1, 5, none⟩) (by show w.heap.size + 1 + 1 < _; omega)).trans Ke5.out
    have HKd_11 := hid hd9
    have HKt_11 := hid hd10
    clear hd9 hd10
    have HX := hid HO11d.out.sl
    have HY := hid HO11t.out.sl
    have hbd : Below V11.heap.size V11 V11.drew := (Below.refl _ _).drew
    have hbdA : Below V11.heap.size V11 (V11.alloc (.cells #[.int .i64 0, .int .i64 0, .int .i64 0, .slice none 0 0, .slice none 0 0, .slice none 0 0, .int .i64 0, .int .i64 0] 35)).drew := ((Below.refl _ _).alloc (Nat.le_refl _) _).drew
    have lxc : V9.heap.size < V11.heap.size := by have := HC11.out.size; omega
    have nxc : ¬ V9.heap.size = V11.heap.size := by omega
    have mxc : ¬ V11.heap.size = V9.heap.size := by omega
    have lyc : V10.heap.size < V11.heap.size := by have := HC11.out.size; omega
    have nyc : ¬ V10.heap.size = V11.heap.size := by omega
    have myc : ¬ V11.heap.size = V10.heap.size := by omega
    have lec : w.heap.size + 1 + 1 < V11.heap.size := by have := HC11.out.size; omega
    have nec : ¬ w.heap.size + 1 + 1 = V11.heap.size := by omega
    have mec : ¬ V11.heap.size = w.heap.size + 1 + 1 := by omega
    go_cut [11] from 42 to 46 (fun s wx => ∃ (b : Nat) (x3q x4q x5q : Option Addr) (y3q y4q y5q : Nat), s = .pointer (some ⟨b, 0, none⟩) ∧ wx.heap[b]? = some (.cells #[.int .i64 S'.status, .int .i64 S'.begun, .int .i64 S'.last, .slice x3q S'.wait.length y3q, .slice x4q S'.busy.length y4q, .slice x5q S'.vars.length y5q, .int .i64 S'.faults, .int .i64 c] 35 (0, 0)) ∧ StOwn wx V11.heap.size (.slice x3q S'.wait.length y3q) (.slice x4q S'.busy.length y4q) (.slice x5q S'.vars.length y5q) S' ∧ Below V11.heap.size V11 wx)
    case first =>
      go_region_held3 (fun w' => w'.cell? ⟨V9.heap.size, 0, none⟩ = some (.slice d1 ss.length f1) ∧ w'.cell? ⟨V9.heap.size, 1, none⟩ = some (.slice d2 fs.length f2) ∧ w'.cell? ⟨V10.heap.size, 0, none⟩ = some (.int .i64 S.status) ∧ w'.cell? ⟨V10.heap.size, 1, none⟩ = some (.int .i64 S.begun) ∧ w'.cell? ⟨V10.heap.size, 2, none⟩ = some (.int .i64 S.last) ∧ w'.cell? ⟨V10.heap.size, 3, none⟩ = some (.slice d3 S.wait.length f3) ∧ w'.cell? ⟨V10.heap.size, 4, none⟩ = some (.slice d4 S.busy.length f4) ∧ w'.cell? ⟨V10.heap.size, 5, none⟩ = some (.slice d5 S.vars.length f5) ∧ w'.cell? ⟨V10.heap.size, 6, none⟩ = some (.int .i64 S.faults) ∧ w'.cell? ⟨w.heap.size + 1 + 1, 0, none⟩ = some (.int .i64 e.seq) ∧ w'.cell? ⟨w.heap.size + 1 + 1, 1, none⟩ = some (.int .i64 e.time) ∧ w'.cell? ⟨w.heap.size + 1 + 1, 2, none⟩ = some (.int .i64 e.run) ∧ w'.cell? ⟨w.heap.size + 1 + 1, 3, none⟩ = some (.int .i64 e.kind) ∧ w'.cell? ⟨w.heap.size + 1 + 1, 4, none⟩ = some (.string e.step) ∧ w'.cell? ⟨w.heap.size + 1 + 1, 5, none⟩ = some (.string e.val)) (go_keep) (first | (go_at_call 22; refine (toEvent_own e _).mono ?_; rintro x V12 ⟨rfl, hq12⟩; have hb12 : Below V11.heap.size V11 V12 := (by first | exact hbd.trans (hq12.mono hbd.size) | exact hbdA.trans (hq12.mono hbdA.size)); have nx12 : ¬ V9.heap.size = V12.heap.size := (by have := hb12.size; omega); have mx12 : ¬ V12.heap.size = V9.heap.size := (by have := hb12.size; omega); have ny12 : ¬ V10.heap.size = V12.heap.size := (by have := hb12.size; omega); have my12 : ¬ V12.heap.size = V10.heap.size := (by have := hb12.size; omega); have ne12 : ¬ w.heap.size + 1 + 1 = V12.heap.size := (by have := hb12.size; omega); have me12 : ¬ V12.heap.size = w.heap.size + 1 + 1 := (by have := hb12.size; omega); have k12x0 := (hb12.cell (p := ⟨V9.heap.size, 0, none⟩) lxc).trans cx0; have k12x1 := (hb12.cell (p := ⟨V9.heap.size, 1, none⟩) lxc).trans cx1; have k12y0 := (hb12.cell (p := ⟨V10.heap.size, 0, none⟩) lyc).trans cy0; have k12y1 := (hb12.cell (p := ⟨V10.heap.size, 1, none⟩) lyc).trans cy1; have k12y2 := (hb12.cell (p := ⟨V10.heap.size, 2, none⟩) lyc).trans cy2; have k12y3 := (hb12.cell (p := ⟨V10.heap.size, 3, none⟩) lyc).trans cy3; have k12y4 := (hb12.cell (p := ⟨V10.heap.size, 4, none⟩) lyc).trans cy4; have k12y5 := (hb12.cell (p := ⟨V10.heap.size, 5, none⟩) lyc).trans cy5; have k12y6 := (hb12.cell (p := ⟨V10.heap.size, 6, none⟩) lyc).trans cy6; have k12e0 := (hb12.cell (p := ⟨w.heap.size + 1 + 1, 0, none⟩) lec).trans ce0; have k12e1 := (hb12.cell (p := ⟨w.heap.size + 1 + 1, 1, none⟩) lec).trans ce1; have k12e2 := (hb12.cell (p := ⟨w.heap.size + 1 + 1, 2, none⟩) lec).trans ce2; have k12e3 := (hb12.cell (p := ⟨w.heap.size + 1 + 1, 3, none⟩) lec).trans ce3; have k12e4 := (hb12.cell (p := ⟨w.heap.size + 1 + 1, 4, none⟩) lec).trans ce4; have k12e5 := (hb12.cell (p := ⟨w.heap.size + 1 + 1, 5, none⟩) lec).trans ce5; have hA12 : Below V12.heap.size V12 (V12.alloc (.cells #[.int .i64 0, .int .i64 0, .int .i64 0, .slice none 0 0, .slice none 0 0, .slice none 0 0, .int .i64 0, .int .i64 0] 35)) := (Below.refl _ _).alloc (Nat.le_refl _) _; (first | have zz12 := (hq12.block V11.heap.size (by simp)).trans (heap_alloc_new V11 _) | skip)) | (go_at_call 7; refine (cIm.out d1 d2 d3 d4 d5 f1 f2 f3 f4 f5 _ (by first | exact HX.out.stay hb12 | exact (HX.out.stay hb12).stay hA12) (by first | exact HY.out.stay hb12 | exact (HY.out.stay hb12).stay hA12) (by first | exact (HE.out.stay HB11.out).stay hb12 | exact ((HE.out.stay HB11.out).stay hb12).stay hA12)).mono ?_; rintro x V13 ⟨z3, z4, z5, rfl, hO13, hq13⟩; obtain ⟨x3q, x4q, x5q, y3q, y4q, y5q, rfl, rfl, rfl⟩ := hO13.forms; unfold outV; have hb13 : Below V11.heap.size V11 V13 := (by first | exact hb12.trans (hq13.mono hb12.size) | exact (hb12.trans (hA12.mono hb12.size)).trans (hq13.mono (hb12.trans (hA12.mono hb12.size)).size)); have k13x0 := (hb13.cell (p := ⟨V9.heap.size, 0, none⟩) lxc).trans cx0; have k13x1 := (hb13.cell (p := ⟨V9.heap.size, 1, none⟩) lxc).trans cx1; have k13y0 := (hb13.cell (p := ⟨V10.heap.size, 0, none⟩) lyc).trans cy0; have k13y1 := (hb13.cell (p := ⟨V10.heap.size, 1, none⟩) lyc).trans cy1; have k13y2 := (hb13.cell (p := ⟨V10.heap.size, 2, none⟩) lyc).trans cy2; have k13y3 := (hb13.cell (p := ⟨V10.heap.size, 3, none⟩) lyc).trans cy3; have k13y4 := (hb13.cell (p := ⟨V10.heap.size, 4, none⟩) lyc).trans cy4; have k13y5 := (hb13.cell (p := ⟨V10.heap.size, 5, none⟩) lyc).trans cy5; have k13y6 := (hb13.cell (p := ⟨V10.heap.size, 6, none⟩) lyc).trans cy6; have k13e0 := (hb13.cell (p := ⟨w.heap.size + 1 + 1, 0, none⟩) lec).trans ce0; have k13e1 := (hb13.cell (p := ⟨w.heap.size + 1 + 1, 1, none⟩) lec).trans ce1; have k13e2 := (hb13.cell (p := ⟨w.heap.size + 1 + 1, 2, none⟩) lec).trans ce2; have k13e3 := (hb13.cell (p := ⟨w.heap.size + 1 + 1, 3, none⟩) lec).trans ce3; have k13e4 := (hb13.cell (p := ⟨w.heap.size + 1 + 1, 4, none⟩) lec).trans ce4; have k13e5 := (hb13.cell (p := ⟨w.heap.size + 1 + 1, 5, none⟩) lec).trans ce5; (first | have zz13 := (hq13.block V12.heap.size (by simp)).trans (heap_alloc_new V12 _) | have zz13 := (hq13.block _ (lt_heap zz12)).trans zz12 | skip); (first | (have s0 : V13.cell? ⟨_, 0, none⟩ = some (.int .i64 0) := (by rw [Lib.cell_of_heap zz13]; rfl); have s1 : V13.cell? ⟨_, 1, none⟩ = some (.int .i64 0) := (by rw [Lib.cell_of_heap zz13]; rfl); have s2 : V13.cell? ⟨_, 2, none⟩ = some (.int .i64 0) := (by rw [Lib.cell_of_heap zz13]; rfl); have s3 : V13.cell? ⟨_, 3, none⟩ = some (.slice none 0 0) := (by rw [Lib.cell_of_heap zz13]; rfl); have s4 : V13.cell? ⟨_, 4, none⟩ = some (.slice none 0 0) := (by rw [Lib.cell_of_heap zz13]; rfl); have s5 : V13.cell? ⟨_, 5, none⟩ = some (.slice none 0 0) := (by rw [Lib.cell_of_heap zz13]; rfl); have s6 : V13.cell? ⟨_, 6, none⟩ = some (.int .i64 0) := (by rw [Lib.cell_of_heap zz13]; rfl); have s7 : V13.cell? ⟨_, 7, none⟩ = some (.int .i64 0) := (by rw [Lib.cell_of_heap zz13]; rfl); have sf := Lib.frozen_of_heap zz13) | skip)))
      all_goals go_wp2_with fail
      all_goals go_meet
      all_goals first | (have hst := store8 zz13 (.int .i64 S'.status) (.int .i64 S'.begun) (.int .i64 S'.last) (.slice x3q S'.wait.length y3q) (.slice x4q S'.busy.length y4q) (.slice x5q S'.vars.length y5q) (.int .i64 S'.faults) (.int .i64 c); exact ⟨_, x3q, x4q, x5q, y3q, y4q, y5q, rfl, hst.1, (hO13.turn hst.2 zz13 (by decide) (by decide)).le (by have := hb12.size; first | omega | (simp; omega)), hb13.trans (hst.2.below hb13.size (fun j h => by have e : j = _ := h; have q3 := hb12.size; subst e; first | omega | simp))⟩) | exact ⟨V13.heap.size, x3q, x4q, x5q, y3q, y4q, y5q, rfl, heap_alloc_new V13 _, (hO13.stay ((Below.refl _ _).alloc (Nat.le_refl _) _)).le (by have := hb12.size; first | omega | (simp; omega)), hb13.trans (((Below.refl _ _).alloc (Nat.le_refl _) _).mono hb13.size)⟩
    case rest =>
      obtain ⟨B14, x3q, x4q, x5q, y3q, y4q, y5q, rfl, hk14, hO14, hb14⟩ := hcut
      rename World => V14
      have HC14 := hid (HC11.out.trans (hb14.mono HC11.out.size))
      have HB14 := hid (HB11.out.trans (hb14.mono HB11.out.size))
      have hz14 := hb14.size
      have hl14 := lt_heap hk14
      have HK14 := hid hk14
      have HO14 := hid hO14
      have H14l := hid (fun j (h : P3 (.slice x3q S'.wait.length y3q) (.slice x4q S'.busy.length y4q) (.slice x5q S'.vars.length y5q) j) => (by rcases h with h | h | h; exact (own_lt hO14.o3 j h).1; exact (own_lt hO14.o4 j h).1; exact (own_lt hO14.o5 j h).1 : V11.heap.size ≤ j))
      have HK8_14 := hid ((hb14.block _ (lt_heap HK11.out)).trans HK11.out)
      have HKd_14 := hid ((hb14.block _ (lt_heap HKd_11.out)).trans HKd_11.out)
      have HKt_14 := hid ((hb14.block _ (lt_heap HKt_11.out)).trans HKt_11.out)
      have HKe_14 := HK14
      have HO8_14 := hid (HO11.out.stay hb14)
      have HOd_14 := hid (HO11d.out.stay hb14)
      have HOt_14 := hid (HO11t.out.stay hb14)
      have HOe_14 := HO14
      clear hk14 hO14 hb14 HK14 HO14 HK11 HO11 HO11d HO11t HKd_11 HKt_11 HX HY hbd hbdA
      clear cx0 cx1 cy0 cy1 cy2 cy3 cy4 cy5 cy6 ce0 ce1 ce2 ce3 ce4 ce5
      clear lxc nxc mxc lyc nyc myc lec nec mec
      have c80 : V14.cell? ⟨B8, 0, none⟩ = some (.int .i64 S'.status) := by rw [Lib.cell_of_heap HK8_14.out]; rfl
      have c81 : V14.cell? ⟨B8, 1, none⟩ = some (.int .i64 S'.begun) := by rw [Lib.cell_of_heap HK8_14.out]; rfl
      have c82 : V14.cell? ⟨B8, 2, none⟩ = some (.int .i64 S'.last) := by rw [Lib.cell_of_heap HK8_14.out]; rfl
      have c83 : V14.cell? ⟨B8, 3, none⟩ = some (.slice x3 S'.wait.length y3) := by rw [Lib.cell_of_heap HK8_14.out]; rfl
      have c84 : V14.cell? ⟨B8, 4, none⟩ = some (.slice x4 S'.busy.length y4) := by rw [Lib.cell_of_heap HK8_14.out]; rfl
      have c85 : V14.cell? ⟨B8, 5, none⟩ = some (.slice x5 S'.vars.length y5) := by rw [Lib.cell_of_heap HK8_14.out]; rfl
      have c86 : V14.cell? ⟨B8, 6, none⟩ = some (.int .i64 S'.faults) := by rw [Lib.cell_of_heap HK8_14.out]; rfl
      have c87 : V14.cell? ⟨B8, 7, none⟩ = some (.int .i64 c) := by rw [Lib.cell_of_heap HK8_14.out]; rfl
      have ce0 : V14.cell? ⟨B14, 0, none⟩ = some (.int .i64 S'.status) := by rw [Lib.cell_of_heap HKe_14.out]; rfl
      have ce1 : V14.cell? ⟨B14, 1, none⟩ = some (.int .i64 S'.begun) := by rw [Lib.cell_of_heap HKe_14.out]; rfl
      have ce2 : V14.cell? ⟨B14, 2, none⟩ = some (.int .i64 S'.last) := by rw [Lib.cell_of_heap HKe_14.out]; rfl
      have ce3 : V14.cell? ⟨B14, 3, none⟩ = some (.slice x3q S'.wait.length y3q) := by rw [Lib.cell_of_heap HKe_14.out]; rfl
      have ce4 : V14.cell? ⟨B14, 4, none⟩ = some (.slice x4q S'.busy.length y4q) := by rw [Lib.cell_of_heap HKe_14.out]; rfl
      have ce5 : V14.cell? ⟨B14, 5, none⟩ = some (.slice x5q S'.vars.length y5q) := by rw [Lib.cell_of_heap HKe_14.out]; rfl
      have ce6 : V14.cell? ⟨B14, 6, none⟩ = some (.int .i64 S'.faults) := by rw [Lib.cell_of_heap HKe_14.out]; rfl
      have ce7 : V14.cell? ⟨B14, 7, none⟩ = some (.int .i64 c) := by rw [Lib.cell_of_heap HKe_14.out]; rfl
      go_wp2_with fail
      refine (eqStateOut_same _ _ c S' _ _ _ _ _ _ _ HOe_14.out HO8_14.out (Nat.le_trans hw3 (by decide)) (Nat.le_trans hw4 (by decide)) (Nat.le_trans hw5 (by decide))).mono ?_
      rintro x V15 ⟨rfl, hb15⟩
      clear c80 c81 c82 c83 c84 c85 c86 c87 ce0 ce1 ce2 ce3 ce4 ce5 ce6 ce7
      have HK8_15 := hid ((hb15.block _ (lt_heap HK8_14.out)).trans HK8_14.out)
      have HO8_15 := hid (HO8_14.out.stay hb15)
      have HKd_15 := hid ((hb15.block _ (lt_heap HKd_14.out)).trans HKd_14.out)
      have HOd_15 := hid (HOd_14.out.stay hb15)
      have HKt_15 := hid ((hb15.block _ (lt_heap HKt_14.out)).trans HKt_14.out)
      have HOt_15 := hid (HOt_14.out.stay hb15)
      have HKe_15 := hid ((hb15.block _ (lt_heap HKe_14.out)).trans HKe_14.out)
      have HOe_15 := hid (HOe_14.out.stay hb15)
      have HC15 := hid (HC14.out.trans (hb15.mono HC14.out.size))
      have HB15 := hid (HB14.out.trans (hb15.mono HB14.out.size))
      have hz15 := hb15.size
      clear HK8_14 HO8_14 HKd_14 HOd_14 HKt_14 HOt_14 HKe_14 HOe_14
      have ca0 := (HC15.out.cell (p := ⟨w.heap.size, 0, none⟩) (by show w.heap.size < _; omega)).trans Kd0.out
      have ca1 := (HC15.out.cell (p := ⟨w.heap.size, 1, none⟩) (by show w.heap.size < _; omega)).trans Kd1.out
      have cd0 : V15.cell? ⟨V9.heap.size, 0, none⟩ = some (.slice d1 ss.length f1) := by rw [Lib.cell_of_heap HKd_15.out]; rfl
      have cd1 : V15.cell? ⟨V9.heap.size, 1, none⟩ = some (.slice d2 fs.length f2) := by rw [Lib.cell_of_heap HKd_15.out]; rfl
      have hlA : w.heap.size < V15.heap.size := by have := HC15.out.size; omega
      have hlB : V9.heap.size < V15.heap.size := lt_heap HKd_15.out
      have hbR : Below V15.heap.size V15 V15.drew := (Below.refl _ _).drew
      go_wp2_with fail
      go_region_held3 (fun w' => w'.cell? ⟨w.heap.size, 0, none⟩ = some (.slice a1 ss.length k1) ∧ w'.cell? ⟨w.heap.size, 1, none⟩ = some (.slice a2 fs.length k2) ∧ w'.cell? ⟨V9.heap.size, 0, none⟩ = some (.slice d1 ss.length f1) ∧ w'.cell? ⟨V9.heap.size, 1, none⟩ = some (.slice d2 fs.length f2) ∧ Below V15.heap.size V15 w') (go_keep) (first | (go_at_call 20; refine (toDef_own a1 a2 k1 k2 ss fs _ ((HD.out.stay HB15.out).stay hbR) m1 m2).mono ?_; rintro x V16 ⟨i1, i2, j1, j2, rfl, hD16, hq16⟩; have hb16 := hbR.trans (hq16.mono hbR.size); have ka0_16 := (hb16.cell (p := ⟨w.heap.size, 0, none⟩) hlA).trans ca0; have ka1_16 := (hb16.cell (p := ⟨w.heap.size, 1, none⟩) hlA).trans ca1; have kb0_16 := (hb16.cell (p := ⟨V9.heap.size, 0, none⟩) hlB).trans cd0; have kb1_16 := (hb16.cell (p := ⟨V9.heap.size, 1, none⟩) hlB).trans cd1) | (go_at_call 24; refine (eqDef_same d1 d2 i1 i2 f1 f2 j1 j2 ss fs _ (HOd_15.out.stay hb16).sl.h1 (HOd_15.out.stay hb16).sl.h2 hD16.sl.h1 hD16.sl.h2 (Nat.le_trans m1 (by decide)) (Nat.le_trans m2 (by decide))).mono ?_; rintro x V17 ⟨rfl, hq17⟩; have hb17 := hb16.trans (hq17.mono hb16.size); have ka0_17 := (hb17.cell (p := ⟨w.heap.size, 0, none⟩) hlA).trans ca0; have ka1_17 := (hb17.cell (p := ⟨w.heap.size, 1, none⟩) hlA).trans ca1; have kb0_17 := (hb17.cell (p := ⟨V9.heap.size, 0, none⟩) hlB).trans cd0; have kb1_17 := (hb17.cell (p := ⟨V9.heap.size, 1, none⟩) hlB).trans cd1))
      have HK8_17 := hid ((hb17.block _ (lt_heap HK8_15.out)).trans HK8_15.out)
      have HO8_17 := hid (HO8_15.out.stay hb17)
      have HKd_17 := hid ((hb17.block _ (lt_heap HKd_15.out)).trans HKd_15.out)
      have HOd_17 := hid (HOd_15.out.stay hb17)
      have HKt_17 := hid ((hb17.block _ (lt_heap HKt_15.out)).trans HKt_15.out)
      have HOt_17 := hid (HOt_15.out.stay hb17)
      have HKe_17 := hid ((hb17.block _ (lt_heap HKe_15.out)).trans HKe_15.out)
      have HOe_17 := hid (HOe_15.out.stay hb17)
      have HC17 := hid (HC15.out.trans (hb17.mono HC15.out.size))
      have HB17 := hid (HB15.out.trans (hb17.mono HB15.out.size))
      have hz17 := hb17.size
      clear HK8_15 HO8_15 HKd_15 HOd_15 HKt_15 HOt_15 HKe_15 HOe_15
      clear hlA hlB hbR hq16 hD16 hb16 hq17 ka0_16 ka0_17 ka1_16 ka1_17 kb0_16 kb0_17 kb1_16 kb1_17
      clear cd0 cd1
      clear ca0 ca1
      have ca0 := (HC17.out.cell (p := ⟨w.heap.size + 1, 0, none⟩) (by show w.heap.size + 1 < _; omega)).trans Kt0.out
      have ca1 := (HC17.out.cell (p := ⟨w.heap.size + 1, 1, none⟩) (by show w.heap.size + 1 < _; omega)).trans Kt1.out
      have ca2 := (HC17.out.cell (p := ⟨w.heap.size + 1, 2, none⟩) (by show w.heap.size + 1 < _; omega)).trans Kt2.out
      have ca3 := (HC17.out.cell (p := ⟨w.heap.size + 1, 3, none⟩) (by show w.heap.size + 1 < _; omega)).trans Kt3.out
      have ca4 := (HC17.out.cell (p := ⟨w.heap.size + 1, 4, none⟩) (by show w.heap.size + 1 < _; omega)).trans Kt4.out
      have ca5 := (HC17.out.cell (p := ⟨w.heap.size + 1, 5, none⟩) (by show w.heap.size + 1 < _; omega)).trans Kt5.out
      have ca6 := (HC17.out.cell (p := ⟨w.heap.size + 1, 6, none⟩) (by show w.heap.size + 1 < _; omega)).trans Kt6.out
      have ct0 : V17.cell? ⟨V10.heap.size, 0, none⟩ = some (.int .i64 S.status) := by rw [Lib.cell_of_heap HKt_17.out]; rfl
      have ct1 : V17.cell? ⟨V10.heap.size, 1, none⟩ = some (.int .i64 S.begun) := by rw [Lib.cell_of_heap HKt_17.out]; rfl
      have ct2 : V17.cell? ⟨V10.heap.size, 2, none⟩ = some (.int .i64 S.last) := by rw [Lib.cell_of_heap HKt_17.out]; rfl
      have ct3 : V17.cell? ⟨V10.heap.size, 3, none⟩ = some (.slice d3 S.wait.length f3) := by rw [Lib.cell_of_heap HKt_17.out]; rfl
      have ct4 : V17.cell? ⟨V10.heap.size, 4, none⟩ = some (.slice d4 S.busy.length f4) := by rw [Lib.cell_of_heap HKt_17.out]; rfl
      have ct5 : V17.cell? ⟨V10.heap.size, 5, none⟩ = some (.slice d5 S.vars.length f5) := by rw [Lib.cell_of_heap HKt_17.out]; rfl
      have ct6 : V17.cell? ⟨V10.heap.size, 6, none⟩ = some (.int .i64 S.faults) := by rw [Lib.cell_of_heap HKt_17.out]; rfl
      have hlA : w.heap.size + 1 < V17.heap.size := by have := HC17.out.size; omega
      have hlB : V10.heap.size < V17.heap.size := lt_heap HKt_17.out
      have hbR : Below V17.heap.size V17 V17.drew := (Below.refl _ _).drew
      go_wp2_with fail
      go_region_held3 (fun w' => w'.cell? ⟨w.heap.size + 1, 0, none⟩ = some (.int .i64 S.status) ∧ w'.cell? ⟨w.heap.size + 1, 1, none⟩ = some (.int .i64 S.begun) ∧ w'.cell? ⟨w.heap.size + 1, 2, none⟩ = some (.int .i64 S.last) ∧ w'.cell? ⟨w.heap.size + 1, 3, none⟩ = some (.slice a3 S.wait.length k3) ∧ w'.cell? ⟨w.heap.size + 1, 4, none⟩ = some (.slice a4 S.busy.length k4) ∧ w'.cell? ⟨w.heap.size + 1, 5, none⟩ = some (.slice a5 S.vars.length k5) ∧ w'.cell? ⟨w.heap.size + 1, 6, none⟩ = some (.int .i64 S.faults) ∧ w'.cell? ⟨V10.heap.size, 0, none⟩ = some (.int .i64 S.status) ∧ w'.cell? ⟨V10.heap.size, 1, none⟩ = some (.int .i64 S.begun) ∧ w'.cell? ⟨V10.heap.size, 2, none⟩ = some (.int .i64 S.last) ∧ w'.cell? ⟨V10.heap.size, 3, none⟩ = some (.slice d3 S.wait.length f3) ∧ w'.cell? ⟨V10.heap.size, 4, none⟩ = some (.slice d4 S.busy.length f4) ∧ w'.cell? ⟨V10.heap.size, 5, none⟩ = some (.slice d5 S.vars.length f5) ∧ w'.cell? ⟨V10.heap.size, 6, none⟩ = some (.int .i64 S.faults) ∧ Below V17.heap.size V17 w') (go_keep) (first | (go_at_call 21; refine (toState_own a3 a4 a5 k3 k4 k5 S _ ((HT.out.stay HB17.out).stay hbR) m3 m4 m5).mono ?_; rintro x V18 ⟨i3, i4, i5, j3, j4, j5, rfl, hS18, hq18⟩; unfold stV; have hb18 := hbR.trans (hq18.mono hbR.size); have ka0_18 := (hb18.cell (p := ⟨w.heap.size + 1, 0, none⟩) hlA).trans ca0; have ka1_18 := (hb18.cell (p := ⟨w.heap.size + 1, 1, none⟩) hlA).trans ca1; have ka2_18 := (hb18.cell (p := ⟨w.heap.size + 1, 2, none⟩) hlA).trans ca2; have ka3_18 := (hb18.cell (p := ⟨w.heap.size + 1, 3, none⟩) hlA).trans ca3; have ka4_18 := (hb18.cell (p := ⟨w.heap.size + 1, 4, none⟩) hlA).trans ca4; have ka5_18 := (hb18.cell (p := ⟨w.heap.size + 1, 5, none⟩) hlA).trans ca5; have ka6_18 := (hb18.cell (p := ⟨w.heap.size + 1, 6, none⟩) hlA).trans ca6; have kb0_18 := (hb18.cell (p := ⟨V10.heap.size, 0, none⟩) hlB).trans ct0; have kb1_18 := (hb18.cell (p := ⟨V10.heap.size, 1, none⟩) hlB).trans ct1; have kb2_18 := (hb18.cell (p := ⟨V10.heap.size, 2, none⟩) hlB).trans ct2; have kb3_18 := (hb18.cell (p := ⟨V10.heap.size, 3, none⟩) hlB).trans ct3; have kb4_18 := (hb18.cell (p := ⟨V10.heap.size, 4, none⟩) hlB).trans ct4; have kb5_18 := (hb18.cell (p := ⟨V10.heap.size, 5, none⟩) hlB).trans ct5; have kb6_18 := (hb18.cell (p := ⟨V10.heap.size, 6, none⟩) hlB).trans ct6) | (go_at_call 25; refine (eqState_same d3 d4 d5 i3 i4 i5 f3 f4 f5 j3 j4 j5 S.status S.begun S.last S.faults S.wait S.busy S.vars _ (HOt_17.out.stay hb18).sl.h3 (HOt_17.out.stay hb18).sl.h4 (HOt_17.out.stay hb18).sl.h5 hS18.sl.h3 hS18.sl.h4 hS18.sl.h5 (Nat.le_trans m3 (by decide)) (Nat.le_trans m4 (by decide)) (Nat.le_trans m5 (by decide))).mono ?_; rintro x V19 ⟨rfl, hq19⟩; have hb19 := hb18.trans (hq19.mono hb18.size); have ka0_19 := (hb19.cell (p := ⟨w.heap.size + 1, 0, none⟩) hlA).trans ca0; have ka1_19 := (hb19.cell (p := ⟨w.heap.size + 1, 1, none⟩) hlA).trans ca1; have ka2_19 := (hb19.cell (p := ⟨w.heap.size + 1, 2, none⟩) hlA).trans ca2; have ka3_19 := (hb19.cell (p := ⟨w.heap.size + 1, 3, none⟩) hlA).trans ca3; have ka4_19 := (hb19.cell (p := ⟨w.heap.size + 1, 4, none⟩) hlA).trans ca4; have ka5_19 := (hb19.cell (p := ⟨w.heap.size + 1, 5, none⟩) hlA).trans ca5; have ka6_19 := (hb19.cell (p := ⟨w.heap.size + 1, 6, none⟩) hlA).trans ca6; have kb0_19 := (hb19.cell (p := ⟨V10.heap.size, 0, none⟩) hlB).trans ct0; have kb1_19 := (hb19.cell (p := ⟨V10.heap.size, 1, none⟩) hlB).trans ct1; have kb2_19 := (hb19.cell (p := ⟨V10.heap.size, 2, none⟩) hlB).trans ct2; have kb3_19 := (hb19.cell (p := ⟨V10.heap.size, 3, none⟩) hlB).trans ct3; have kb4_19 := (hb19.cell (p := ⟨V10.heap.size, 4, none⟩) hlB).trans ct4; have kb5_19 := (hb19.cell (p := ⟨V10.heap.size, 5, none⟩) hlB).trans ct5; have kb6_19 := (hb19.cell (p := ⟨V10.heap.size, 6, none⟩) hlB).trans ct6))
      have HK8_19 := hid ((hb19.block _ (lt_heap HK8_17.out)).trans HK8_17.out)
      have HO8_19 := hid (HO8_17.out.stay hb19)
      have HKd_19 := hid ((hb19.block _ (lt_heap HKd_17.out)).trans HKd_17.out)
      have HOd_19 := hid (HOd_17.out.stay hb19)
      have HKt_19 := hid ((hb19.block _ (lt_heap HKt_17.out)).trans HKt_17.out)
      have HOt_19 := hid (HOt_17.out.stay hb19)
      have HKe_19 := hid ((hb19.block _ (lt_heap HKe_17.out)).trans HKe_17.out)
      have HOe_19 := hid (HOe_17.out.stay hb19)
      have HC19 := hid (HC17.out.trans (hb19.mono HC17.out.size))
      have HB19 := hid (HB17.out.trans (hb19.mono HB17.out.size))
      have hz19 := hb19.size
      clear HK8_17 HO8_17 HKd_17 HOd_17 HKt_17 HOt_17 HKe_17 HOe_17
      clear hlA hlB hbR hq18 hS18 hb18 hq19 ka0_18 ka0_19 ka1_18 ka1_19 ka2_18 ka2_19 ka3_18 ka3_19 ka4_18 ka4_19 ka5_18 ka5_19 ka6_18 ka6_19 kb0_18 kb0_19 kb1_18 kb1_19 kb2_18 kb2_19 kb3_18 kb3_19 kb4_18 kb4_19 kb5_18 kb5_19 kb6_18 kb6_19
      clear ct0 ct1 ct2 ct3 ct4 ct5 ct6
      clear ca0 ca1 ca2 ca3 ca4 ca5 ca6
      have cd0 : V19.cell? ⟨V9.heap.size, 0, none⟩ = some (.slice d1 ss.length f1) := by rw [Lib.cell_of_heap HKd_19.out]; rfl
      have cd1 : V19.cell? ⟨V9.heap.size, 1, none⟩ = some (.slice d2 fs.length f2) := by rw [Lib.cell_of_heap HKd_19.out]; rfl
      go_wp2_with fail
      refine (markDef_own _ ss.length fs.length 1 _ _ _ _ _ HOd_19.out.o1 HOd_19.out.o2 (by decide) (by omega)).mono ?_
      rintro x V20 ⟨rfl, hc20⟩
      clear cd0 cd1
      have HC20 := hid (HC19.out.trans (hc20.below HC19.out.size (fun j h => by have := Hdl.out j h; have := HC8.out.size; omega)))
      have HB20 := hid (HB19.out.trans (hc20.below HB19.out.size (fun j h => by have := Hdl.out j h; have := HB8.out.size; omega)))
      have hz20 := hc20.size
      have HK8_20 := hid ((hc20.block _ (lt_heap HK8_19.out) (fun h => by have := Hdl.out _ h; omega)).trans HK8_19.out)
      have HKt_20 := hid ((hc20.block _ (lt_heap HKt_19.out) (fun h => by have := Hdl.out _ h; omega)).trans HKt_19.out)
      have HKe_20 := hid ((hc20.block _ (lt_heap HKe_19.out) (fun h => h.elim (fun h => own_ne HOd_19.out.o1 HKe_19.out (by decide) _ h rfl) (fun h => own_ne HOd_19.out.o2 HKe_19.out (by decide) _ h rfl))).trans HKe_19.out)
      have HO8_20 := hid (HO8_19.out.chgT hc20 (fun g hg h => by have := H8l.out g (Or.inl hg); have := Hdl.out g h; omega) (fun g hg h => by have := H8l.out g (Or.inr (Or.inl hg)); have := Hdl.out g h; omega) (fun g hg h => by have := H8l.out g (Or.inr (Or.inr hg)); have := Hdl.out g h; omega))
      have HOt_20 := hid (HOt_19.out.chgT hc20 (fun g hg h => by have := Htl.out g (Or.inl hg); have := Hdl.out g h; omega) (fun g hg h => by have := Htl.out g (Or.inr (Or.inl hg)); have := Hdl.out g h; omega) (fun g hg h => by have := Htl.out g (Or.inr (Or.inr hg)); have := Hdl.out g h; omega))
      have HOe_20 := hid (HOe_19.out.chgT hc20 (fun g hg h => by have := H14l.out g (Or.inl hg); have := Hdl.out g h; omega) (fun g hg h => by have := H14l.out g (Or.inr (Or.inl hg)); have := Hdl.out g h; omega) (fun g hg h => by have := H14l.out g (Or.inr (Or.inr hg)); have := Hdl.out g h; omega))
      clear HK8_19 HO8_19 HKd_19 HOd_19 HKt_19 HOt_19 HKe_19 HOe_19 hc20
      have hK1 : 0 < (1 + (ss.length : Int) + 2 * (fs.length : Int)) ∧ (1 + (ss.length : Int) + 2 * (fs.length : Int)) ≤ 4000000 := by omega
      generalize (1 + (ss.length : Int) + 2 * (fs.length : Int)) = K1 at *
      have ct0 : V20.cell? ⟨V10.heap.size, 0, none⟩ = some (.int .i64 S.status) := by rw [Lib.cell_of_heap HKt_20.out]; rfl
      have ct1 : V20.cell? ⟨V10.heap.size, 1, none⟩ = some (.int .i64 S.begun) := by rw [Lib.cell_of_heap HKt_20.out]; rfl
      have ct2 : V20.cell? ⟨V10.heap.size, 2, none⟩ = some (.int .i64 S.last) := by rw [Lib.cell_of_heap HKt_20.out]; rfl
      have ct3 : V20.cell? ⟨V10.heap.size, 3, none⟩ = some (.slice d3 S.wait.length f3) := by rw [Lib.cell_of_heap HKt_20.out]; rfl
      have ct4 : V20.cell? ⟨V10.heap.size, 4, none⟩ = some (.slice d4 S.busy.length f4) := by rw [Lib.cell_of_heap HKt_20.out]; rfl
      have ct5 : V20.cell? ⟨V10.heap.size, 5, none⟩ = some (.slice d5 S.vars.length f5) := by rw [Lib.cell_of_heap HKt_20.out]; rfl
      have ct6 : V20.cell? ⟨V10.heap.size, 6, none⟩ = some (.int .i64 S.faults) := by rw [Lib.cell_of_heap HKt_20.out]; rfl
      go_wp2_with fail
      refine (markState_own _ S.wait.length S.busy.length S.vars.length K1 S.status S.begun S.last S.faults _ _ _ _ _ _ _ HOt_20.out.o3 HOt_20.out.o4 HOt_20.out.o5 HOt_20.out.a34 hK1.1 (by omega)).mono ?_
      rintro x V21 ⟨rfl, _, hc21⟩
      clear ct0 ct1 ct2 ct3 ct4 ct5 ct6
      have HC21 := hid (HC20.out.trans (hc21.below HC20.out.size (fun j h => by have := Htl.out j h; have := HC8.out.size; omega)))
      have HB21 := hid (HB20.out.trans (hc21.below HB20.out.size (fun j h => by have := Htl.out j h; have := HB8.out.size; omega)))
      have hz21 := hc21.size
      have HK8_21 := hid ((hc21.block _ (lt_heap HK8_20.out) (fun h => by have := Htl.out _ h; omega)).trans HK8_20.out)
      have HKe_21 := hid ((hc21.block _ (lt_heap HKe_20.out) (fun h => by rcases h with h | h | h; exact own_ne HOt_20.out.o3 HKe_20.out (by decide) _ h rfl; exact own_ne HOt_20.out.o4 HKe_20.out (by decide) _ h rfl; exact own_ne HOt_20.out.o5 HKe_20.out (by decide) _ h rfl)).trans HKe_20.out)
      have HO8_21 := hid (HO8_20.out.chgT hc21 (fun g hg h => by have := H8l.out g (Or.inl hg); have := Htl.out g h; omega) (fun g hg h => by have := H8l.out g (Or.inr (Or.inl hg)); have := Htl.out g h; omega) (fun g hg h => by have := H8l.out g (Or.inr (Or.inr hg)); have := Htl.out g h; omega))
      have HOe_21 := hid (HOe_20.out.chgT hc21 (fun g hg h => by have := H14l.out g (Or.inl hg); have := Htl.out g h; omega) (fun g hg h => by have := H14l.out g (Or.inr (Or.inl hg)); have := Htl.out g h; omega) (fun g hg h => by have := H14l.out g (Or.inr (Or.inr hg)); have := Htl.out g h; omega))
      clear HK8_20 HO8_20 HKt_20 HOt_20 HKe_20 HOe_20 hc21
      have hK2 : 0 < K1 + (S.wait.length : Int) + (S.busy.length : Int) + 2 * (S.vars.length : Int) := by omega
      generalize K1 + (S.wait.length : Int) + (S.busy.length : Int) + 2 * (S.vars.length : Int) = K2 at *
      have hK2n : decide (K2 < 0) = false := by simp; omega
      have c80 : V21.cell? ⟨B8, 0, none⟩ = some (.int .i64 S'.status) := by rw [Lib.cell_of_heap HK8_21.out]; rfl
      have c81 : V21.cell? ⟨B8, 1, none⟩ = some (.int .i64 S'.begun) := by rw [Lib.cell_of_heap HK8_21.out]; rfl
      have c82 : V21.cell? ⟨B8, 2, none⟩ = some (.int .i64 S'.last) := by rw [Lib.cell_of_heap HK8_21.out]; rfl
      have c83 : V21.cell? ⟨B8, 3, none⟩ = some (.slice x3 S'.wait.length y3) := by rw [Lib.cell_of_heap HK8_21.out]; rfl
      have c84 : V21.cell? ⟨B8, 4, none⟩ = some (.slice x4 S'.busy.length y4) := by rw [Lib.cell_of_heap HK8_21.out]; rfl
      have c85 : V21.cell? ⟨B8, 5, none⟩ = some (.slice x5 S'.vars.length y5) := by rw [Lib.cell_of_heap HK8_21.out]; rfl
      have c86 : V21.cell? ⟨B8, 6, none⟩ = some (.int .i64 S'.faults) := by rw [Lib.cell_of_heap HK8_21.out]; rfl
      have c87 : V21.cell? ⟨B8, 7, none⟩ = some (.int .i64 c) := by rw [Lib.cell_of_heap HK8_21.out]; rfl
      have ce0 : V21.cell? ⟨B14, 0, none⟩ = some (.int .i64 S'.status) := by rw [Lib.cell_of_heap HKe_21.out]; rfl
      have ce1 : V21.cell? ⟨B14, 1, none⟩ = some (.int .i64 S'.begun) := by rw [Lib.cell_of_heap HKe_21.out]; rfl
      have ce2 : V21.cell? ⟨B14, 2, none⟩ = some (.int .i64 S'.last) := by rw [Lib.cell_of_heap HKe_21.out]; rfl
      have ce3 : V21.cell? ⟨B14, 3, none⟩ = some (.slice x3q S'.wait.length y3q) := by rw [Lib.cell_of_heap HKe_21.out]; rfl
      have ce4 : V21.cell? ⟨B14, 4, none⟩ = some (.slice x4q S'.busy.length y4q) := by rw [Lib.cell_of_heap HKe_21.out]; rfl
      have ce5 : V21.cell? ⟨B14, 5, none⟩ = some (.slice x5q S'.vars.length y5q) := by rw [Lib.cell_of_heap HKe_21.out]; rfl
      have ce6 : V21.cell? ⟨B14, 6, none⟩ = some (.int .i64 S'.faults) := by rw [Lib.cell_of_heap HKe_21.out]; rfl
      have ce7 : V21.cell? ⟨B14, 7, none⟩ = some (.int .i64 c) := by rw [Lib.cell_of_heap HKe_21.out]; rfl
      go_wp2_with fail
      refine (eqStateOut_same _ _ c S' _ _ _ _ _ _ _ HOe_21.out HO8_21.out (Nat.le_trans hw3 (by decide)) (Nat.le_trans hw4 (by decide)) (Nat.le_trans hw5 (by decide))).mono ?_
      rintro x V22 ⟨rfl, hb22⟩
      clear c80 c81 c82 c83 c84 c85 c86 c87 ce0 ce1 ce2 ce3 ce4 ce5 ce6 ce7
      have HK8_22 := hid ((hb22.block _ (lt_heap HK8_21.out)).trans HK8_21.out)
      have HO8_22 := hid (HO8_21.out.stay hb22)
      have HKe_22 := hid ((hb22.block _ (lt_heap HKe_21.out)).trans HKe_21.out)
      have HOe_22 := hid (HOe_21.out.stay hb22)
      have HC22 := hid (HC21.out.trans (hb22.mono HC21.out.size))
      have HB22 := hid (HB21.out.trans (hb22.mono HB21.out.size))
      have hz22 := hb22.size
      clear HK8_21 HO8_21 HKe_21 HOe_21
      have ce0 : V22.cell? ⟨B14, 0, none⟩ = some (.int .i64 S'.status) := by rw [Lib.cell_of_heap HKe_22.out]; rfl
      have ce1 : V22.cell? ⟨B14, 1, none⟩ = some (.int .i64 S'.begun) := by rw [Lib.cell_of_heap HKe_22.out]; rfl
      have ce2 : V22.cell? ⟨B14, 2, none⟩ = some (.int .i64 S'.last) := by rw [Lib.cell_of_heap HKe_22.out]; rfl
      have ce3 : V22.cell? ⟨B14, 3, none⟩ = some (.slice x3q S'.wait.length y3q) := by rw [Lib.cell_of_heap HKe_22.out]; rfl
      have ce4 : V22.cell? ⟨B14, 4, none⟩ = some (.slice x4q S'.busy.length y4q) := by rw [Lib.cell_of_heap HKe_22.out]; rfl
      have ce5 : V22.cell? ⟨B14, 5, none⟩ = some (.slice x5q S'.vars.length y5q) := by rw [Lib.cell_of_heap HKe_22.out]; rfl
      have ce6 : V22.cell? ⟨B14, 6, none⟩ = some (.int .i64 S'.faults) := by rw [Lib.cell_of_heap HKe_22.out]; rfl
      have ce7 : V22.cell? ⟨B14, 7, none⟩ = some (.int .i64 c) := by rw [Lib.cell_of_heap HKe_22.out]; rfl
      go_wp2_with fail
      refine (markStateOut_own _ c S' _ _ _ _ HOe_22.out (by omega)).mono ?_
      rintro x V23 ⟨rfl, hM, hc23⟩
      clear ce0 ce1 ce2 ce3 ce4 ce5 ce6 ce7
      have HC23 := hid (HC22.out.trans (hc23.below HC22.out.size (fun j h => by have := H14l.out j h; have := HC8.out.size; omega)))
      have HB23 := hid (HB22.out.trans (hc23.below HB22.out.size (fun j h => by have := H14l.out j h; have := HB8.out.size; omega)))
      have hz23 := hc23.size
      have HK8_23 := hid ((hc23.block _ (lt_heap HK8_22.out) (fun h => by have := H14l.out _ h; omega)).trans HK8_22.out)
      have HKe_23 := hid ((hc23.block _ (lt_heap HKe_22.out) (fun h => by rcases h with h | h | h; exact own_ne HOe_22.out.o3 HKe_22.out (by decide) _ h rfl; exact own_ne HOe_22.out.o4 HKe_22.out (by decide) _ h rfl; exact own_ne HOe_22.out.o5 HKe_22.out (by decide) _ h rfl)).trans HKe_22.out)
      have HO8_23 := hid (HO8_22.out.chgT hc23 (fun g hg h => by have := H8l.out g (Or.inl hg); have := H14l.out g h; omega) (fun g hg h => by have := H8l.out g (Or.inr (Or.inl hg)); have := H14l.out g h; omega) (fun g hg h => by have := H8l.out g (Or.inr (Or.inr hg)); have := H14l.out g h; omega))
      clear HK8_22 HO8_22 HKe_22 HOe_22 hc23
      have HM_23 := hid hM
      clear hM
      have ce0 : V23.cell? ⟨B14, 0, none⟩ = some (.int .i64 S'.status) := by rw [Lib.cell_of_heap HKe_23.out]; rfl
      have ce1 : V23.cell? ⟨B14, 1, none⟩ = some (.int .i64 S'.begun) := by rw [Lib.cell_of_heap HKe_23.out]; rfl
      have ce2 : V23.cell? ⟨B14, 2, none⟩ = some (.int .i64 S'.last) := by rw [Lib.cell_of_heap HKe_23.out]; rfl
      have ce3 : V23.cell? ⟨B14, 3, none⟩ = some (.slice x3q S'.wait.length y3q) := by rw [Lib.cell_of_heap HKe_23.out]; rfl
      have ce4 : V23.cell? ⟨B14, 4, none⟩ = some (.slice x4q S'.busy.length y4q) := by rw [Lib.cell_of_heap HKe_23.out]; rfl
      have ce5 : V23.cell? ⟨B14, 5, none⟩ = some (.slice x5q S'.vars.length y5q) := by rw [Lib.cell_of_heap HKe_23.out]; rfl
      have ce6 : V23.cell? ⟨B14, 6, none⟩ = some (.int .i64 S'.faults) := by rw [Lib.cell_of_heap HKe_23.out]; rfl
      have ce7 : V23.cell? ⟨B14, 7, none⟩ = some (.int .i64 c) := by rw [Lib.cell_of_heap HKe_23.out]; rfl
      go_wp2_with fail
      refine (heldStateOut_own _ _ _ _ c S'.status S'.begun S'.last S'.faults _ _ _ _ HM_23.out (by omega)).mono ?_
      rintro x V24 ⟨rfl, hb24⟩
      clear ce0 ce1 ce2 ce3 ce4 ce5 ce6 ce7
      have HO8_24 := hid (HO8_23.out.stay hb24)
      have HM_24 := hid (HM_23.out.stay hb24)
      have HK8_24 := hid ((hb24.block _ (lt_heap HK8_23.out)).trans HK8_23.out)
      have HKe_24 := hid ((hb24.block _ (lt_heap HKe_23.out)).trans HKe_23.out)
      have HC24 := hid (HC23.out.trans (hb24.mono HC23.out.size))
      have HB24 := hid (HB23.out.trans (hb24.mono HB23.out.size))
      have hz24 := hb24.size
      clear HO8_23 HM_23 HK8_23 HKe_23 hb24
      have cH := hid (fun V (hV : Below V24.heap.size V24 V) => heldStateOut_own _ _ _ _ c S'.status S'.begun S'.last S'.faults _ _ _ V (HM_24.out.stay hV) (by omega))
      have hK3 : 0 < 1 + (S'.wait.length : Int) + (S'.busy.length : Int) + 2 * (S'.vars.length : Int) := by omega
      generalize 1 + (S'.wait.length : Int) + (S'.busy.length : Int) + 2 * (S'.vars.length : Int) = K3 at *
      have hK3n : decide (K3 < 0) = false := by simp; omega
      have cd0 := (HC24.out.cell (p := ⟨w.heap.size, 0, none⟩) (by show w.heap.size < _; omega)).trans Kd0.out
      have cd1 := (HC24.out.cell (p := ⟨w.heap.size, 1, none⟩) (by show w.heap.size < _; omega)).trans Kd1.out
      have ct0 := (HC24.out.cell (p := ⟨w.heap.size + 1, 0, none⟩) (by show w.heap.size + 1 < _; omega)).trans Kt0.out
      have ct1 := (HC24.out.cell (p := ⟨w.heap.size + 1, 1, none⟩) (by show w.heap.size + 1 < _; omega)).trans Kt1.out
      have ct2 := (HC24.out.cell (p := ⟨w.heap.size + 1, 2, none⟩) (by show w.heap.size + 1 < _; omega)).trans Kt2.out
      have ct3 := (HC24.out.cell (p := ⟨w.heap.size + 1, 3, none⟩) (by show w.heap.size + 1 < _; omega)).trans Kt3.out
      have ct4 := (HC24.out.cell (p := ⟨w.heap.size + 1, 4, none⟩) (by show w.heap.size + 1 < _; omega)).trans Kt4.out
      have ct5 := (HC24.out.cell (p := ⟨w.heap.size + 1, 5, none⟩) (by show w.heap.size + 1 < _; omega)).trans Kt5.out
      have ct6 := (HC24.out.cell (p := ⟨w.heap.size + 1, 6, none⟩) (by show w.heap.size + 1 < _; omega)).trans Kt6.out
      have ce0 := (HC24.out.cell (p := ⟨w.heap.size + 1 + 1, 0, none⟩) (by show w.heap.size + 1 + 1 < _; omega)).trans Ke0.out
      have ce1 := (HC24.out.cell (p := ⟨w.heap.size + 1 + 1, 1, none⟩) (by show w.heap.size + 1 + 1 < _; omega)).trans Ke1.out
      have ce2 := (HC24.out.cell (p := ⟨w.heap.size + 1 + 1, 2, none⟩) (by show w.heap.size + 1 + 1 < _; omega)).trans Ke2.out
      have ce3 := (HC24.out.cell (p := ⟨w.heap.size + 1 + 1, 3, none⟩) (by show w.heap.size + 1 + 1 < _; omega)).trans Ke3.out
      have ce4 := (HC24.out.cell (p := ⟨w.heap.size + 1 + 1, 4, none⟩) (by show w.heap.size + 1 + 1 < _; omega)).trans Ke4.out
      have ce5 := (HC24.out.cell (p := ⟨w.heap.size + 1 + 1, 5, none⟩) (by show w.heap.size + 1 + 1 < _; omega)).trans Ke5.out
      have hbd : Below V24.heap.size V24 V24.drew := (Below.refl _ _).drew
      have hbdA : Below V24.heap.size V24 (V24.alloc (.cells #[.int .i64 0, .int .i64 0, .int .i64 0, .slice none 0 0, .slice none 0 0, .slice none 0 0, .int .i64 0, .int .i64 0] 35)).drew := ((Below.refl _ _).alloc (Nat.le_refl _) _).drew
      have ldc : w.heap.size < V24.heap.size := by have := HC24.out.size; omega
      have ndc : ¬ w.heap.size = V24.heap.size := by omega
      have mdc : ¬ V24.heap.size = w.heap.size := by omega
      have ltc : w.heap.size + 1 < V24.heap.size := by have := HC24.out.size; omega
      have ntc : ¬ w.heap.size + 1 = V24.heap.size := by omega
      have mtc : ¬ V24.heap.size = w.heap.size + 1 := by omega
      have lec : w.heap.size + 1 + 1 < V24.heap.size := by have := HC24.out.size; omega
      have nec : ¬ w.heap.size + 1 + 1 = V24.heap.size := by omega
      have mec : ¬ V24.heap.size = w.heap.size + 1 + 1 := by omega
      go_upto_region 34 with fail
      go_cut [15] from 86 to 92 (fun s wx => ∃ (b : Nat) (x3 x4 x5 : Option Addr) (y3 y4 y5 : Nat), s = .pointer (some ⟨b, 0, none⟩) ∧ wx.heap[b]? = some (.cells #[.int .i64 S'.status, .int .i64 S'.begun, .int .i64 S'.last, .slice x3 S'.wait.length y3, .slice x4 S'.busy.length y4, .slice x5 S'.vars.length y5, .int .i64 S'.faults, .int .i64 c] 35 (0, 0)) ∧ StOwn wx V24.heap.size (.slice x3 S'.wait.length y3) (.slice x4 S'.busy.length y4) (.slice x5 S'.vars.length y5) S' ∧ Below V24.heap.size V24 wx)
      case first =>
        go_region_held3 (fun w' => w'.cell? ⟨w.heap.size, 0, none⟩ = some (.slice a1 ss.length k1) ∧ w'.cell? ⟨w.heap.size, 1, none⟩ = some (.slice a2 fs.length k2) ∧ w'.cell? ⟨w.heap.size + 1, 0, none⟩ = some (.int .i64 S.status) ∧ w'.cell? ⟨w.heap.size + 1, 1, none⟩ = some (.int .i64 S.begun) ∧ w'.cell? ⟨w.heap.size + 1, 2, none⟩ = some (.int .i64 S.last) ∧ w'.cell? ⟨w.heap.size + 1, 3, none⟩ = some (.slice a3 S.wait.length k3) ∧ w'.cell? ⟨w.heap.size + 1, 4, none⟩ = some (.slice a4 S.busy.length k4) ∧ w'.cell? ⟨w.heap.size + 1, 5, none⟩ = some (.slice a5 S.vars.length k5) ∧ w'.cell? ⟨w.heap.size + 1, 6, none⟩ = some (.int .i64 S.faults) ∧ w'.cell? ⟨w.heap.size + 1 + 1, 0, none⟩ = some (.int .i64 e.seq) ∧ w'.cell? ⟨w.heap.size + 1 + 1, 1, none⟩ = some (.int .i64 e.time) ∧ w'.cell? ⟨w.heap.size + 1 + 1, 2, none⟩ = some (.int .i64 e.run) ∧ w'.cell? ⟨w.heap.size + 1 + 1, 3, none⟩ = some (.int .i64 e.kind) ∧ w'.cell? ⟨w.heap.size + 1 + 1, 4, none⟩ = some (.string e.step) ∧ w'.cell? ⟨w.heap.size + 1 + 1, 5, none⟩ = some (.string e.val)) (go_keep) (first | (go_at_call 20; refine (toDef_own a1 a2 k1 k2 ss fs _ (by first | exact (HD.out.stay HB24.out).stay hbd | exact (HD.out.stay HB24.out).stay hbdA) m1 m2).mono ?_; rintro x V25 ⟨p1, p2, q1, q2, rfl, hO25, hq25⟩; have hb25 : Below V24.heap.size V24 V25 := (by first | exact hbd.trans (hq25.mono hbd.size) | exact hbdA.trans (hq25.mono hbdA.size)); have nd25 : ¬ w.heap.size = V25.heap.size := (by have := hb25.size; omega); have md25 : ¬ V25.heap.size = w.heap.size := (by have := hb25.size; omega); have nt25 : ¬ w.heap.size + 1 = V25.heap.size := (by have := hb25.size; omega); have mt25 : ¬ V25.heap.size = w.heap.size + 1 := (by have := hb25.size; omega); have ne25 : ¬ w.heap.size + 1 + 1 = V25.heap.size := (by have := hb25.size; omega); have me25 : ¬ V25.heap.size = w.heap.size + 1 + 1 := (by have := hb25.size; omega); have k25d0 := (hb25.cell (p := ⟨w.heap.size, 0, none⟩) ldc).trans cd0; have k25d1 := (hb25.cell (p := ⟨w.heap.size, 1, none⟩) ldc).trans cd1; have k25t0 := (hb25.cell (p := ⟨w.heap.size + 1, 0, none⟩) ltc).trans ct0; have k25t1 := (hb25.cell (p := ⟨w.heap.size + 1, 1, none⟩) ltc).trans ct1; have k25t2 := (hb25.cell (p := ⟨w.heap.size + 1, 2, none⟩) ltc).trans ct2; have k25t3 := (hb25.cell (p := ⟨w.heap.size + 1, 3, none⟩) ltc).trans ct3; have k25t4 := (hb25.cell (p := ⟨w.heap.size + 1, 4, none⟩) ltc).trans ct4; have k25t5 := (hb25.cell (p := ⟨w.heap.size + 1, 5, none⟩) ltc).trans ct5; have k25t6 := (hb25.cell (p := ⟨w.heap.size + 1, 6, none⟩) ltc).trans ct6; have k25e0 := (hb25.cell (p := ⟨w.heap.size + 1 + 1, 0, none⟩) lec).trans ce0; have k25e1 := (hb25.cell (p := ⟨w.heap.size + 1 + 1, 1, none⟩) lec).trans ce1; have k25e2 := (hb25.cell (p := ⟨w.heap.size + 1 + 1, 2, none⟩) lec).trans ce2; have k25e3 := (hb25.cell (p := ⟨w.heap.size + 1 + 1, 3, none⟩) lec).trans ce3; have k25e4 := (hb25.cell (p := ⟨w.heap.size + 1 + 1, 4, none⟩) lec).trans ce4; have k25e5 := (hb25.cell (p := ⟨w.heap.size + 1 + 1, 5, none⟩) lec).trans ce5; have hA25 : Below V25.heap.size V25 (V25.alloc (.cells #[.int .i64 0, .int .i64 0, .int .i64 0, .slice none 0 0, .slice none 0 0, .slice none 0 0, .int .i64 0, .int .i64 0] 35)) := (Below.refl _ _).alloc (Nat.le_refl _) _; (first | have zz25 := (hq25.block V24.heap.size (by simp)).trans (heap_alloc_new V24 _) | skip)) | (go_at_call 21; refine (toState_own a3 a4 a5 k3 k4 k5 S _ (by first | exact (HT.out.stay HB24.out).stay hb25 | exact ((HT.out.stay HB24.out).stay hb25).stay hA25) m3 m4 m5).mono ?_; rintro x V26 ⟨p3, p4, p5, q3, q4, q5, rfl, hO26, hq26⟩; have hb26 : Below V24.heap.size V24 V26 := (by first | exact hb25.trans (hq26.mono hb25.size) | exact (hb25.trans (hA25.mono hb25.size)).trans (hq26.mono (hb25.trans (hA25.mono hb25.size)).size)); have nd26 : ¬ w.heap.size = V26.heap.size := (by have := hb26.size; omega); have md26 : ¬ V26.heap.size = w.heap.size := (by have := hb26.size; omega); have nt26 : ¬ w.heap.size + 1 = V26.heap.size := (by have := hb26.size; omega); have mt26 : ¬ V26.heap.size = w.heap.size + 1 := (by have := hb26.size; omega); have ne26 : ¬ w.heap.size + 1 + 1 = V26.heap.size := (by have := hb26.size; omega); have me26 : ¬ V26.heap.size = w.heap.size + 1 + 1 := (by have := hb26.size; omega); have k26d0 := (hb26.cell (p := ⟨w.heap.size, 0, none⟩) ldc).trans cd0; have k26d1 := (hb26.cell (p := ⟨w.heap.size, 1, none⟩) ldc).trans cd1; have k26t0 := (hb26.cell (p := ⟨w.heap.size + 1, 0, none⟩) ltc).trans ct0; have k26t1 := (hb26.cell (p := ⟨w.heap.size + 1, 1, none⟩) ltc).trans ct1; have k26t2 := (hb26.cell (p := ⟨w.heap.size + 1, 2, none⟩) ltc).trans ct2; have k26t3 := (hb26.cell (p := ⟨w.heap.size + 1, 3, none⟩) ltc).trans ct3; have k26t4 := (hb26.cell (p := ⟨w.heap.size + 1, 4, none⟩) ltc).trans ct4; have k26t5 := (hb26.cell (p := ⟨w.heap.size + 1, 5, none⟩) ltc).trans ct5; have k26t6 := (hb26.cell (p := ⟨w.heap.size + 1, 6, none⟩) ltc).trans ct6; have k26e0 := (hb26.cell (p := ⟨w.heap.size + 1 + 1, 0, none⟩) lec).trans ce0; have k26e1 := (hb26.cell (p := ⟨w.heap.size + 1 + 1, 1, none⟩) lec).trans ce1; have k26e2 := (hb26.cell (p := ⟨w.heap.size + 1 + 1, 2, none⟩) lec).trans ce2; have k26e3 := (hb26.cell (p := ⟨w.heap.size + 1 + 1, 3, none⟩) lec).trans ce3; have k26e4 := (hb26.cell (p := ⟨w.heap.size + 1 + 1, 4, none⟩) lec).trans ce4; have k26e5 := (hb26.cell (p := ⟨w.heap.size + 1 + 1, 5, none⟩) lec).trans ce5; have hA26 : Below V26.heap.size V26 (V26.alloc (.cells #[.int .i64 0, .int .i64 0, .int .i64 0, .slice none 0 0, .slice none 0 0, .slice none 0 0, .int .i64 0, .int .i64 0] 35)) := (Below.refl _ _).alloc (Nat.le_refl _) _; (first | have zz26 := (hq26.block V25.heap.size (by simp)).trans (heap_alloc_new V25 _) | have zz26 := (hq26.block _ (lt_heap zz25)).trans zz25 | skip); have hOa : DefOwn V26 _ _ _ _ _ := (by first | exact hO25.stay hq26 | exact (hO25.stay hA25).stay hq26)) | (go_at_call 22; refine (toEvent_own e _).mono ?_; rintro x V27 ⟨rfl, hq27⟩; have hb27 : Below V24.heap.size V24 V27 := (by first | exact hb26.trans (hq27.mono hb26.size) | exact (hb26.trans (hA26.mono hb26.size)).trans (hq27.mono (hb26.trans (hA26.mono hb26.size)).size)); have nd27 : ¬ w.heap.size = V27.heap.size := (by have := hb27.size; omega); have md27 : ¬ V27.heap.size = w.heap.size := (by have := hb27.size; omega); have nt27 : ¬ w.heap.size + 1 = V27.heap.size := (by have := hb27.size; omega); have mt27 : ¬ V27.heap.size = w.heap.size + 1 := (by have := hb27.size; omega); have ne27 : ¬ w.heap.size + 1 + 1 = V27.heap.size := (by have := hb27.size; omega); have me27 : ¬ V27.heap.size = w.heap.size + 1 + 1 := (by have := hb27.size; omega); have k27d0 := (hb27.cell (p := ⟨w.heap.size, 0, none⟩) ldc).trans cd0; have k27d1 := (hb27.cell (p := ⟨w.heap.size, 1, none⟩) ldc).trans cd1; have k27t0 := (hb27.cell (p := ⟨w.heap.size + 1, 0, none⟩) ltc).trans ct0; have k27t1 := (hb27.cell (p := ⟨w.heap.size + 1, 1, none⟩) ltc).trans ct1; have k27t2 := (hb27.cell (p := ⟨w.heap.size + 1, 2, none⟩) ltc).trans ct2; have k27t3 := (hb27.cell (p := ⟨w.heap.size + 1, 3, none⟩) ltc).trans ct3; have k27t4 := (hb27.cell (p := ⟨w.heap.size + 1, 4, none⟩) ltc).trans ct4; have k27t5 := (hb27.cell (p := ⟨w.heap.size + 1, 5, none⟩) ltc).trans ct5; have k27t6 := (hb27.cell (p := ⟨w.heap.size + 1, 6, none⟩) ltc).trans ct6; have k27e0 := (hb27.cell (p := ⟨w.heap.size + 1 + 1, 0, none⟩) lec).trans ce0; have k27e1 := (hb27.cell (p := ⟨w.heap.size + 1 + 1, 1, none⟩) lec).trans ce1; have k27e2 := (hb27.cell (p := ⟨w.heap.size + 1 + 1, 2, none⟩) lec).trans ce2; have k27e3 := (hb27.cell (p := ⟨w.heap.size + 1 + 1, 3, none⟩) lec).trans ce3; have k27e4 := (hb27.cell (p := ⟨w.heap.size + 1 + 1, 4, none⟩) lec).trans ce4; have k27e5 := (hb27.cell (p := ⟨w.heap.size + 1 + 1, 5, none⟩) lec).trans ce5; have hA27 : Below V27.heap.size V27 (V27.alloc (.cells #[.int .i64 0, .int .i64 0, .int .i64 0, .slice none 0 0, .slice none 0 0, .slice none 0 0, .int .i64 0, .int .i64 0] 35)) := (Below.refl _ _).alloc (Nat.le_refl _) _; (first | have zz27 := (hq27.block V26.heap.size (by simp)).trans (heap_alloc_new V26 _) | have zz27 := (hq27.block _ (lt_heap zz26)).trans zz26 | skip); have hOb : DefOwn V27 _ _ _ _ _ := (by first | exact hOa.stay hq27 | exact (hOa.stay hA26).stay hq27); have hOc : StOwn V27 _ _ _ _ _ := (by first | exact hO26.stay hq27 | exact (hO26.stay hA26).stay hq27)) | (go_at_call 7; refine (cIm.out p1 p2 p3 p4 p5 q1 q2 q3 q4 q5 _ (by first | exact hOb.sl | exact (hOb.stay hA27).sl) (by first | exact hOc.sl | exact (hOc.stay hA27).sl) (by first | exact (HE.out.stay HB24.out).stay hb27 | exact ((HE.out.stay HB24.out).stay hb27).stay hA27)).mono ?_; rintro x V28 ⟨z3, z4, z5, rfl, hO28, hq28⟩; obtain ⟨x3, x4, x5, y3, y4, y5, rfl, rfl, rfl⟩ := hO28.forms; unfold outV; have hb28 : Below V24.heap.size V24 V28 := (by first | exact hb27.trans (hq28.mono hb27.size) | exact (hb27.trans (hA27.mono hb27.size)).trans (hq28.mono (hb27.trans (hA27.mono hb27.size)).size)); have k28d0 := (hb28.cell (p := ⟨w.heap.size, 0, none⟩) ldc).trans cd0; have k28d1 := (hb28.cell (p := ⟨w.heap.size, 1, none⟩) ldc).trans cd1; have k28t0 := (hb28.cell (p := ⟨w.heap.size + 1, 0, none⟩) ltc).trans ct0; have k28t1 := (hb28.cell (p := ⟨w.heap.size + 1, 1, none⟩) ltc).trans ct1; have k28t2 := (hb28.cell (p := ⟨w.heap.size + 1, 2, none⟩) ltc).trans ct2; have k28t3 := (hb28.cell (p := ⟨w.heap.size + 1, 3, none⟩) ltc).trans ct3; have k28t4 := (hb28.cell (p := ⟨w.heap.size + 1, 4, none⟩) ltc).trans ct4; have k28t5 := (hb28.cell (p := ⟨w.heap.size + 1, 5, none⟩) ltc).trans ct5; have k28t6 := (hb28.cell (p := ⟨w.heap.size + 1, 6, none⟩) ltc).trans ct6; have k28e0 := (hb28.cell (p := ⟨w.heap.size + 1 + 1, 0, none⟩) lec).trans ce0; have k28e1 := (hb28.cell (p := ⟨w.heap.size + 1 + 1, 1, none⟩) lec).trans ce1; have k28e2 := (hb28.cell (p := ⟨w.heap.size + 1 + 1, 2, none⟩) lec).trans ce2; have k28e3 := (hb28.cell (p := ⟨w.heap.size + 1 + 1, 3, none⟩) lec).trans ce3; have k28e4 := (hb28.cell (p := ⟨w.heap.size + 1 + 1, 4, none⟩) lec).trans ce4; have k28e5 := (hb28.cell (p := ⟨w.heap.size + 1 + 1, 5, none⟩) lec).trans ce5; (first | have zz28 := (hq28.block V27.heap.size (by simp)).trans (heap_alloc_new V27 _) | have zz28 := (hq28.block _ (lt_heap zz27)).trans zz27 | skip); (first | (have s0 : V28.cell? ⟨_, 0, none⟩ = some (.int .i64 0) := (by rw [Lib.cell_of_heap zz28]; rfl); have s1 : V28.cell? ⟨_, 1, none⟩ = some (.int .i64 0) := (by rw [Lib.cell_of_heap zz28]; rfl); have s2 : V28.cell? ⟨_, 2, none⟩ = some (.int .i64 0) := (by rw [Lib.cell_of_heap zz28]; rfl); have s3 : V28.cell? ⟨_, 3, none⟩ = some (.slice none 0 0) := (by rw [Lib.cell_of_heap zz28]; rfl); have s4 : V28.cell? ⟨_, 4, none⟩ = some (.slice none 0 0) := (by rw [Lib.cell_of_heap zz28]; rfl); have s5 : V28.cell? ⟨_, 5, none⟩ = some (.slice none 0 0) := (by rw [Lib.cell_of_heap zz28]; rfl); have s6 : V28.cell? ⟨_, 6, none⟩ = some (.int .i64 0) := (by rw [Lib.cell_of_heap zz28]; rfl); have s7 : V28.cell? ⟨_, 7, none⟩ = some (.int .i64 0) := (by rw [Lib.cell_of_heap zz28]; rfl); have sf := Lib.frozen_of_heap zz28) | skip)))
        all_goals go_wp2_with fail
        all_goals go_meet
        all_goals first | (have hst := store8 zz28 (.int .i64 S'.status) (.int .i64 S'.begun) (.int .i64 S'.last) (.slice x3 S'.wait.length y3) (.slice x4 S'.busy.length y4) (.slice x5 S'.vars.length y5) (.int .i64 S'.faults) (.int .i64 c); exact ⟨_, x3, x4, x5, y3, y4, y5, rfl, hst.1, (hO28.turn hst.2 zz28 (by decide) (by decide)).le (by have := hb27.size; first | omega | (simp; omega)), hb28.trans (hst.2.below hb28.size (fun j h => by have e : j = _ := h; have q1 := hb25.size; have q2 := hb26.size; have q3 := hb27.size; subst e; first | omega | simp))⟩) | exact ⟨V28.heap.size, x3, x4, x5, y3, y4, y5, rfl, heap_alloc_new V28 _, (hO28.stay ((Below.refl _ _).alloc (Nat.le_refl _) _)).le (by have := hb27.size; first | omega | (simp; omega)), hb28.trans (((Below.refl _ _).alloc (Nat.le_refl _) _).mono hb28.size)⟩
      case rest =>
        obtain ⟨B29, x3p, x4p, x5p, y3p, y4p, y5p, rfl, hk29, hO29, hb29⟩ := hcut
        rename World => V29
        have HC29 := hid (HC24.out.trans (hb29.mono HC24.out.size))
        have HB29 := hid (HB24.out.trans (hb29.mono HB24.out.size))
        have hz29 := hb29.size
        have hl29 := lt_heap hk29
        have HK29 := hid hk29
        have HO29 := hid hO29
        have HO8_29 := hid (HO8_24.out.stay hb29)
        have HK8_29 := hid ((hb29.block _ (lt_heap HK8_24.out)).trans HK8_24.out)
        have HKe_29 := hid ((hb29.block _ (lt_heap HKe_24.out)).trans HKe_24.out)
        have HKp_29 := HK29
        have HOp_29 := HO29
        clear cd0 cd1 ct0 ct1 ct2 ct3 ct4 ct5 ct6 ce0 ce1 ce2 ce3 ce4 ce5
        clear hbd hbdA ldc ndc mdc ltc ntc mtc lec nec mec
        have c80 : V29.cell? ⟨B8, 0, none⟩ = some (.int .i64 S'.status) := by rw [Lib.cell_of_heap HK8_29.out]; rfl
        have c81 : V29.cell? ⟨B8, 1, none⟩ = some (.int .i64 S'.begun) := by rw [Lib.cell_of_heap HK8_29.out]; rfl
        have c82 : V29.cell? ⟨B8, 2, none⟩ = some (.int .i64 S'.last) := by rw [Lib.cell_of_heap HK8_29.out]; rfl
        have c83 : V29.cell? ⟨B8, 3, none⟩ = some (.slice x3 S'.wait.length y3) := by rw [Lib.cell_of_heap HK8_29.out]; rfl
        have c84 : V29.cell? ⟨B8, 4, none⟩ = some (.slice x4 S'.busy.length y4) := by rw [Lib.cell_of_heap HK8_29.out]; rfl
        have c85 : V29.cell? ⟨B8, 5, none⟩ = some (.slice x5 S'.vars.length y5) := by rw [Lib.cell_of_heap HK8_29.out]; rfl
        have c86 : V29.cell? ⟨B8, 6, none⟩ = some (.int .i64 S'.faults) := by rw [Lib.cell_of_heap HK8_29.out]; rfl
        have c87 : V29.cell? ⟨B8, 7, none⟩ = some (.int .i64 c) := by rw [Lib.cell_of_heap HK8_29.out]; rfl
        have cp0 : V29.cell? ⟨B29, 0, none⟩ = some (.int .i64 S'.status) := by rw [Lib.cell_of_heap HKp_29.out]; rfl
        have cp1 : V29.cell? ⟨B29, 1, none⟩ = some (.int .i64 S'.begun) := by rw [Lib.cell_of_heap HKp_29.out]; rfl
        have cp2 : V29.cell? ⟨B29, 2, none⟩ = some (.int .i64 S'.last) := by rw [Lib.cell_of_heap HKp_29.out]; rfl
        have cp3 : V29.cell? ⟨B29, 3, none⟩ = some (.slice x3p S'.wait.length y3p) := by rw [Lib.cell_of_heap HKp_29.out]; rfl
        have cp4 : V29.cell? ⟨B29, 4, none⟩ = some (.slice x4p S'.busy.length y4p) := by rw [Lib.cell_of_heap HKp_29.out]; rfl
        have cp5 : V29.cell? ⟨B29, 5, none⟩ = some (.slice x5p S'.vars.length y5p) := by rw [Lib.cell_of_heap HKp_29.out]; rfl
        have cp6 : V29.cell? ⟨B29, 6, none⟩ = some (.int .i64 S'.faults) := by rw [Lib.cell_of_heap HKp_29.out]; rfl
        have cp7 : V29.cell? ⟨B29, 7, none⟩ = some (.int .i64 c) := by rw [Lib.cell_of_heap HKp_29.out]; rfl
        go_wp2_with fail
        refine (eqStateOut_same _ _ c S' _ _ _ _ _ _ _ HOp_29.out HO8_29.out (Nat.le_trans hw3 (by decide)) (Nat.le_trans hw4 (by decide)) (Nat.le_trans hw5 (by decide))).mono ?_
        rintro x V30 ⟨rfl, hb30⟩
        clear c80 c81 c82 c83 c84 c85 c86 c87 cp0 cp1 cp2 cp3 cp4 cp5 cp6 cp7
        have hb2930 := hb29.trans (hb30.mono hb29.size)
        have HKe_30 := hid ((hb30.block _ (lt_heap HKe_29.out)).trans HKe_29.out)
        have HB30 := hid (HB29.out.trans (hb30.mono HB29.out.size))
        have ce0 : V30.cell? ⟨B14, 0, none⟩ = some (.int .i64 S'.status) := by rw [Lib.cell_of_heap HKe_30.out]; rfl
        have ce1 : V30.cell? ⟨B14, 1, none⟩ = some (.int .i64 S'.begun) := by rw [Lib.cell_of_heap HKe_30.out]; rfl
        have ce2 : V30.cell? ⟨B14, 2, none⟩ = some (.int .i64 S'.last) := by rw [Lib.cell_of_heap HKe_30.out]; rfl
        have ce3 : V30.cell? ⟨B14, 3, none⟩ = some (.slice x3q S'.wait.length y3q) := by rw [Lib.cell_of_heap HKe_30.out]; rfl
        have ce4 : V30.cell? ⟨B14, 4, none⟩ = some (.slice x4q S'.busy.length y4q) := by rw [Lib.cell_of_heap HKe_30.out]; rfl
        have ce5 : V30.cell? ⟨B14, 5, none⟩ = some (.slice x5q S'.vars.length y5q) := by rw [Lib.cell_of_heap HKe_30.out]; rfl
        have ce6 : V30.cell? ⟨B14, 6, none⟩ = some (.int .i64 S'.faults) := by rw [Lib.cell_of_heap HKe_30.out]; rfl
        have ce7 : V30.cell? ⟨B14, 7, none⟩ = some (.int .i64 c) := by rw [Lib.cell_of_heap HKe_30.out]; rfl
        go_wp2_with fail
        refine (cH.out _ hb2930).mono ?_
        rintro x V31 ⟨rfl, hb31⟩
        have HB31 := hid (HB30.out.trans (hb31.mono HB30.out.size))
        clear ce0 ce1 ce2 ce3 ce4 ce5 ce6 ce7
        go_wp2_with fail
        go_ret
        exact ⟨rfl, HB31.out⟩
end Go.Proofs.YtihpadabgfhegaaGreatDoor
