/-
  What spec.StateStep answers: a contract over the seat's program. (Made by mksts.py, then cut: SpStA.)
-/
import Derived.Test.YtdggmeblnbabbaaGreatDoorZEvI3
import Derived.Test.YtdggmeblnbabbaaGreatDoorZSpSt
namespace Go.Proofs.YtdggmeblnbabbaaGreatDoor
open Go.RowKit Go.Sort

set_option maxRecDepth 100000 in
set_option maxHeartbeats 4000000 in
theorem specStateStep_any (a1 a2 a3 a4 a5 : Option Addr) (k1 k2 k3 k4 k5 : Nat) (ss : List ByteArray) (fs : List Pr) (S : St) (e : Ev) (w : World) (hD : DefSl w a1 a2 k1 k2 ss fs) (hT : StSl w a3 a4 a5 k3 k4 k5 S) (F1 : ∀ i, (h : i < ss.length) → ss[i].size ≤ maxLen) (F5 : FitP S.vars) (he : e.step.size ≤ maxLen) (n1 : ss.length ≤ maxLen) (n2 : fs.length ≤ maxLen) (n3 : S.wait.length ≤ maxLen) (n4 : S.busy.length ≤ maxLen) (n5 : S.vars.length ≤ maxLen) :
    Calls Tryz.prog 6 #[defV a1 a2 k1 k2 ss fs, stV a3 a4 a5 k3 k4 k5 S, evV e] w fun x w' => StepPost w.heap.size w (rS ss fs S e).1 (rS ss fs S e).2 x w' := by
  unfold evV
  have hbW : Below w.heap.size w ((((w.alloc (.cells #[.slice a1 ss.length k1, .slice a2 fs.length k2] 26)).alloc (.cells #[.int .i64 S.status, .int .i64 S.begun, .int .i64 S.last, .slice a3 S.wait.length k3, .slice a4 S.busy.length k4, .slice a5 S.vars.length k5, .int .i64 S.faults] 29)).alloc (.cells #[.int .i64 e.seq, .int .i64 e.time, .int .i64 e.run, .int .i64 e.kind, .string e.step, .string e.val] 31)).alloc (.cells #[.int .i64 0, .int .i64 0, .int .i64 0, .slice none 0 0, .slice none 0 0, .slice none 0 0, .int .i64 0, .int .i64 0] 35)) := below4 _ _ _ _ _
  have hWs : ((((w.alloc (.cells #[.slice a1 ss.length k1, .slice a2 fs.length k2] 26)).alloc (.cells #[.int .i64 S.status, .int .i64 S.begun, .int .i64 S.last, .slice a3 S.wait.length k3, .slice a4 S.busy.length k4, .slice a5 S.vars.length k5, .int .i64 S.faults] 29)).alloc (.cells #[.int .i64 e.seq, .int .i64 e.time, .int .i64 e.run, .int .i64 e.kind, .string e.step, .string e.val] 31)).alloc (.cells #[.int .i64 0, .int .i64 0, .int .i64 0, .slice none 0 0, .slice none 0 0, .slice none 0 0, .int .i64 0, .int .i64 0] 35)).heap.size = w.heap.size + 1 + 1 + 1 + 1 := by simp
  have HRW := hid (show ((((w.alloc (.cells #[.slice a1 ss.length k1, .slice a2 fs.length k2] 26)).alloc (.cells #[.int .i64 S.status, .int .i64 S.begun, .int .i64 S.last, .slice a3 S.wait.length k3, .slice a4 S.busy.length k4, .slice a5 S.vars.length k5, .int .i64 S.faults] 29)).alloc (.cells #[.int .i64 e.seq, .int .i64 e.time, .int .i64 e.run, .int .i64 e.kind, .string e.step, .string e.val] 31)).alloc (.cells #[.int .i64 0, .int .i64 0, .int .i64 0, .slice none 0 0, .slice none 0 0, .slice none 0 0, .int .i64 0, .int .i64 0] 35)).heap[w.heap.size + 1 + 1 + 1]? = some (.cells #[.int .i64 0, .int .i64 0, .int .i64 0, .slice none 0 0, .slice none 0 0, .slice none 0 0, .int .i64 0, .int .i64 0] 35 (0, 0)) from by
    have h := heap_alloc_new (((w.alloc (.cells #[.slice a1 ss.length k1, .slice a2 fs.length k2] 26)).alloc (.cells #[.int .i64 S.status, .int .i64 S.begun, .int .i64 S.last, .slice a3 S.wait.length k3, .slice a4 S.busy.length k4, .slice a5 S.vars.length k5, .int .i64 S.faults] 29)).alloc (.cells #[.int .i64 e.seq, .int .i64 e.time, .int .i64 e.run, .int .i64 e.kind, .string e.step, .string e.val] 31)) (.cells #[.int .i64 0, .int .i64 0, .int .i64 0, .slice none 0 0, .slice none 0 0, .slice none 0 0, .int .i64 0, .int .i64 0] 35 (0, 0))
    rw [show (((w.alloc (.cells #[.slice a1 ss.length k1, .slice a2 fs.length k2] 26)).alloc (.cells #[.int .i64 S.status, .int .i64 S.begun, .int .i64 S.last, .slice a3 S.wait.length k3, .slice a4 S.busy.length k4, .slice a5 S.vars.length k5, .int .i64 S.faults] 29)).alloc (.cells #[.int .i64 e.seq, .int .i64 e.time, .int .i64 e.run, .int .i64 e.kind, .string e.step, .string e.val] 31)).heap.size = w.heap.size + 1 + 1 + 1 by simp] at h
    exact h)
  have HDW := hid (hD.stay hbW)
  have HTW := hid (hT.stay hbW)
  have cR := hid (specStateRight_any a1 a2 a3 a4 a5 k1 k2 k3 k4 k5 ss fs S.status S.begun S.last S.faults S.wait S.busy S.vars _ HDW.out.h2 F1 n2 HDW.out.h1 HTW.out.h3 HTW.out.h4 HTW.out.h5 F5 n1 n3 n4 n5)
  have HBW := hid hbW
  clear hD hT hbW F1 F5 n1 n2 n3 n4 n5
  have D0 := hid (show ((((w.alloc (.cells #[.slice a1 ss.length k1, .slice a2 fs.length k2] 26)).alloc (.cells #[.int .i64 S.status, .int .i64 S.begun, .int .i64 S.last, .slice a3 S.wait.length k3, .slice a4 S.busy.length k4, .slice a5 S.vars.length k5, .int .i64 S.faults] 29)).alloc (.cells #[.int .i64 e.seq, .int .i64 e.time, .int .i64 e.run, .int .i64 e.kind, .string e.step, .string e.val] 31)).alloc (.cells #[.int .i64 0, .int .i64 0, .int .i64 0, .slice none 0 0, .slice none 0 0, .slice none 0 0, .int .i64 0, .int .i64 0] 35)).cell? ⟨w.heap.size, 0, none⟩ = some (.slice a1 ss.length k1) by simp [go_sem])
  have D1 := hid (show ((((w.alloc (.cells #[.slice a1 ss.length k1, .slice a2 fs.length k2] 26)).alloc (.cells #[.int .i64 S.status, .int .i64 S.begun, .int .i64 S.last, .slice a3 S.wait.length k3, .slice a4 S.busy.length k4, .slice a5 S.vars.length k5, .int .i64 S.faults] 29)).alloc (.cells #[.int .i64 e.seq, .int .i64 e.time, .int .i64 e.run, .int .i64 e.kind, .string e.step, .string e.val] 31)).alloc (.cells #[.int .i64 0, .int .i64 0, .int .i64 0, .slice none 0 0, .slice none 0 0, .slice none 0 0, .int .i64 0, .int .i64 0] 35)).cell? ⟨w.heap.size, 1, none⟩ = some (.slice a2 fs.length k2) by simp [go_sem])
  have T0 := hid (show ((((w.alloc (.cells #[.slice a1 ss.length k1, .slice a2 fs.length k2] 26)).alloc (.cells #[.int .i64 S.status, .int .i64 S.begun, .int .i64 S.last, .slice a3 S.wait.length k3, .slice a4 S.busy.length k4, .slice a5 S.vars.length k5, .int .i64 S.faults] 29)).alloc (.cells #[.int .i64 e.seq, .int .i64 e.time, .int .i64 e.run, .int .i64 e.kind, .string e.step, .string e.val] 31)).alloc (.cells #[.int .i64 0, .int .i64 0, .int .i64 0, .slice none 0 0, .slice none 0 0, .slice none 0 0, .int .i64 0, .int .i64 0] 35)).cell? ⟨w.heap.size + 1, 0, none⟩ = some (.int .i64 S.status) by simp [go_sem])
  have T1 := hid (show ((((w.alloc (.cells #[.slice a1 ss.length k1, .slice a2 fs.length k2] 26)).alloc (.cells #[.int .i64 S.status, .int .i64 S.begun, .int .i64 S.last, .slice a3 S.wait.length k3, .slice a4 S.busy.length k4, .slice a5 S.vars.length k5, .int .i64 S.faults] 29)).alloc (.cells #[.int .i64 e.seq, .int .i64 e.time, .int .i64 e.run, .int .i64 e.kind, .string e.step, .string e.val] 31)).alloc (.cells #[.int .i64 0, .int .i64 0, .int .i64 0, .slice none 0 0, .slice none 0 0, .slice none 0 0, .int .i64 0, .int .i64 0] 35)).cell? ⟨w.heap.size + 1, 1, none⟩ = some (.int .i64 S.begun) by simp [go_sem])
  have T2 := hid (show ((((w.alloc (.cells #[.slice a1 ss.length k1, .slice a2 fs.length k2] 26)).alloc (.cells #[.int .i64 S.status, .int .i64 S.begun, .int .i64 S.last, .slice a3 S.wait.length k3, .slice a4 S.busy.length k4, .slice a5 S.vars.length k5, .int .i64 S.faults] 29)).alloc (.cells #[.int .i64 e.seq, .int .i64 e.time, .int .i64 e.run, .int .i64 e.kind, .string e.step, .string e.val] 31)).alloc (.cells #[.int .i64 0, .int .i64 0, .int .i64 0, .slice none 0 0, .slice none 0 0, .slice none 0 0, .int .i64 0, .int .i64 0] 35)).cell? ⟨w.heap.size + 1, 2, none⟩ = some (.int .i64 S.last) by simp [go_sem])
  have T3 := hid (show ((((w.alloc (.cells #[.slice a1 ss.length k1, .slice a2 fs.length k2] 26)).alloc (.cells #[.int .i64 S.status, .int .i64 S.begun, .int .i64 S.last, .slice a3 S.wait.length k3, .slice a4 S.busy.length k4, .slice a5 S.vars.length k5, .int .i64 S.faults] 29)).alloc (.cells #[.int .i64 e.seq, .int .i64 e.time, .int .i64 e.run, .int .i64 e.kind, .string e.step, .string e.val] 31)).alloc (.cells #[.int .i64 0, .int .i64 0, .int .i64 0, .slice none 0 0, .slice none 0 0, .slice none 0 0, .int .i64 0, .int .i64 0] 35)).cell? ⟨w.heap.size + 1, 3, none⟩ = some (.slice a3 S.wait.length k3) by simp [go_sem])
  have T4 := hid (show ((((w.alloc (.cells #[.slice a1 ss.length k1, .slice a2 fs.length k2] 26)).alloc (.cells #[.int .i64 S.status, .int .i64 S.begun, .int .i64 S.last, .slice a3 S.wait.length k3, .slice a4 S.busy.length k4, .slice a5 S.vars.length k5, .int .i64 S.faults] 29)).alloc (.cells #[.int .i64 e.seq, .int .i64 e.time, .int .i64 e.run, .int .i64 e.kind, .string e.step, .string e.val] 31)).alloc (.cells #[.int .i64 0, .int .i64 0, .int .i64 0, .slice none 0 0, .slice none 0 0, .slice none 0 0, .int .i64 0, .int .i64 0] 35)).cell? ⟨w.heap.size + 1, 4, none⟩ = some (.slice a4 S.busy.length k4) by simp [go_sem])
  have T5 := hid (show ((((w.alloc (.cells #[.slice a1 ss.length k1, .slice a2 fs.length k2] 26)).alloc (.cells #[.int .i64 S.status, .int .i64 S.begun, .int .i64 S.last, .slice a3 S.wait.length k3, .slice a4 S.busy.length k4, .slice a5 S.vars.length k5, .int .i64 S.faults] 29)).alloc (.cells #[.int .i64 e.seq, .int .i64 e.time, .int .i64 e.run, .int .i64 e.kind, .string e.step, .string e.val] 31)).alloc (.cells #[.int .i64 0, .int .i64 0, .int .i64 0, .slice none 0 0, .slice none 0 0, .slice none 0 0, .int .i64 0, .int .i64 0] 35)).cell? ⟨w.heap.size + 1, 5, none⟩ = some (.slice a5 S.vars.length k5) by simp [go_sem])
  have T6 := hid (show ((((w.alloc (.cells #[.slice a1 ss.length k1, .slice a2 fs.length k2] 26)).alloc (.cells #[.int .i64 S.status, .int .i64 S.begun, .int .i64 S.last, .slice a3 S.wait.length k3, .slice a4 S.busy.length k4, .slice a5 S.vars.length k5, .int .i64 S.faults] 29)).alloc (.cells #[.int .i64 e.seq, .int .i64 e.time, .int .i64 e.run, .int .i64 e.kind, .string e.step, .string e.val] 31)).alloc (.cells #[.int .i64 0, .int .i64 0, .int .i64 0, .slice none 0 0, .slice none 0 0, .slice none 0 0, .int .i64 0, .int .i64 0] 35)).cell? ⟨w.heap.size + 1, 6, none⟩ = some (.int .i64 S.faults) by simp [go_sem])
  have E0 := hid (show ((((w.alloc (.cells #[.slice a1 ss.length k1, .slice a2 fs.length k2] 26)).alloc (.cells #[.int .i64 S.status, .int .i64 S.begun, .int .i64 S.last, .slice a3 S.wait.length k3, .slice a4 S.busy.length k4, .slice a5 S.vars.length k5, .int .i64 S.faults] 29)).alloc (.cells #[.int .i64 e.seq, .int .i64 e.time, .int .i64 e.run, .int .i64 e.kind, .string e.step, .string e.val] 31)).alloc (.cells #[.int .i64 0, .int .i64 0, .int .i64 0, .slice none 0 0, .slice none 0 0, .slice none 0 0, .int .i64 0, .int .i64 0] 35)).cell? ⟨w.heap.size + 1 + 1, 0, none⟩ = some (.int .i64 e.seq) by simp [go_sem])
  have E1 := hid (show ((((w.alloc (.cells #[.slice a1 ss.length k1, .slice a2 fs.length k2] 26)).alloc (.cells #[.int .i64 S.status, .int .i64 S.begun, .int .i64 S.last, .slice a3 S.wait.length k3, .slice a4 S.busy.length k4, .slice a5 S.vars.length k5, .int .i64 S.faults] 29)).alloc (.cells #[.int .i64 e.seq, .int .i64 e.time, .int .i64 e.run, .int .i64 e.kind, .string e.step, .string e.val] 31)).alloc (.cells #[.int .i64 0, .int .i64 0, .int .i64 0, .slice none 0 0, .slice none 0 0, .slice none 0 0, .int .i64 0, .int .i64 0] 35)).cell? ⟨w.heap.size + 1 + 1, 1, none⟩ = some (.int .i64 e.time) by simp [go_sem])
  have E2 := hid (show ((((w.alloc (.cells #[.slice a1 ss.length k1, .slice a2 fs.length k2] 26)).alloc (.cells #[.int .i64 S.status, .int .i64 S.begun, .int .i64 S.last, .slice a3 S.wait.length k3, .slice a4 S.busy.length k4, .slice a5 S.vars.length k5, .int .i64 S.faults] 29)).alloc (.cells #[.int .i64 e.seq, .int .i64 e.time, .int .i64 e.run, .int .i64 e.kind, .string e.step, .string e.val] 31)).alloc (.cells #[.int .i64 0, .int .i64 0, .int .i64 0, .slice none 0 0, .slice none 0 0, .slice none 0 0, .int .i64 0, .int .i64 0] 35)).cell? ⟨w.heap.size + 1 + 1, 2, none⟩ = some (.int .i64 e.run) by simp [go_sem])
  have E3 := hid (show ((((w.alloc (.cells #[.slice a1 ss.length k1, .slice a2 fs.length k2] 26)).alloc (.cells #[.int .i64 S.status, .int .i64 S.begun, .int .i64 S.last, .slice a3 S.wait.length k3, .slice a4 S.busy.length k4, .slice a5 S.vars.length k5, .int .i64 S.faults] 29)).alloc (.cells #[.int .i64 e.seq, .int .i64 e.time, .int .i64 e.run, .int .i64 e.kind, .string e.step, .string e.val] 31)).alloc (.cells #[.int .i64 0, .int .i64 0, .int .i64 0, .slice none 0 0, .slice none 0 0, .slice none 0 0, .int .i64 0, .int .i64 0] 35)).cell? ⟨w.heap.size + 1 + 1, 3, none⟩ = some (.int .i64 e.kind) by simp [go_sem])
  have E4 := hid (show ((((w.alloc (.cells #[.slice a1 ss.length k1, .slice a2 fs.length k2] 26)).alloc (.cells #[.int .i64 S.status, .int .i64 S.begun, .int .i64 S.last, .slice a3 S.wait.length k3, .slice a4 S.busy.length k4, .slice a5 S.vars.length k5, .int .i64 S.faults] 29)).alloc (.cells #[.int .i64 e.seq, .int .i64 e.time, .int .i64 e.run, .int .i64 e.kind, .string e.step, .string e.val] 31)).alloc (.cells #[.int .i64 0, .int .i64 0, .int .i64 0, .slice none 0 0, .slice none 0 0, .slice none 0 0, .int .i64 0, .int .i64 0] 35)).cell? ⟨w.heap.size + 1 + 1, 4, none⟩ = some (.string e.step) by simp [go_sem])
  have E5 := hid (show ((((w.alloc (.cells #[.slice a1 ss.length k1, .slice a2 fs.length k2] 26)).alloc (.cells #[.int .i64 S.status, .int .i64 S.begun, .int .i64 S.last, .slice a3 S.wait.length k3, .slice a4 S.busy.length k4, .slice a5 S.vars.length k5, .int .i64 S.faults] 29)).alloc (.cells #[.int .i64 e.seq, .int .i64 e.time, .int .i64 e.run, .int .i64 e.kind, .string e.step, .string e.val] 31)).alloc (.cells #[.int .i64 0, .int .i64 0, .int .i64 0, .slice none 0 0, .slice none 0 0, .slice none 0 0, .int .i64 0, .int .i64 0] 35)).cell? ⟨w.heap.size + 1 + 1, 5, none⟩ = some (.string e.val) by simp [go_sem])
  go_enter Tryz.func6, Tryz.ntmps6
  go_wp2_with fail
  refine cR.out.mono ?_
  generalize ((((w.alloc (.cells #[.slice a1 ss.length k1, .slice a2 fs.length k2] 26)).alloc (.cells #[.int .i64 S.status, .int .i64 S.begun, .int .i64 S.last, .slice a3 S.wait.length k3, .slice a4 S.busy.length k4, .slice a5 S.vars.length k5, .int .i64 S.faults] 29)).alloc (.cells #[.int .i64 e.seq, .int .i64 e.time, .int .i64 e.run, .int .i64 e.kind, .string e.step, .string e.val] 31)).alloc (.cells #[.int .i64 0, .int .i64 0, .int .i64 0, .slice none 0 0, .slice none 0 0, .slice none 0 0, .int .i64 0, .int .i64 0] 35)) = W at *
  rintro x W1 ⟨⟨B1, rfl, T⟩, hb1⟩
  have HB1 := hid (HBW.out.trans (hb1.mono HBW.out.size))
  have hz1 := hb1.size
  have d0 := (hb1.cell (p := ⟨w.heap.size, 0, none⟩) (by show w.heap.size < _; omega)).trans D0.out
  have d1 := (hb1.cell (p := ⟨w.heap.size, 1, none⟩) (by show w.heap.size < _; omega)).trans D1.out
  have t0 := (hb1.cell (p := ⟨w.heap.size + 1, 0, none⟩) (by show w.heap.size + 1 < _; omega)).trans T0.out
  have t1 := (hb1.cell (p := ⟨w.heap.size + 1, 1, none⟩) (by show w.heap.size + 1 < _; omega)).trans T1.out
  have t2 := (hb1.cell (p := ⟨w.heap.size + 1, 2, none⟩) (by show w.heap.size + 1 < _; omega)).trans T2.out
  have t3 := (hb1.cell (p := ⟨w.heap.size + 1, 3, none⟩) (by show w.heap.size + 1 < _; omega)).trans T3.out
  have t4 := (hb1.cell (p := ⟨w.heap.size + 1, 4, none⟩) (by show w.heap.size + 1 < _; omega)).trans T4.out
  have t5 := (hb1.cell (p := ⟨w.heap.size + 1, 5, none⟩) (by show w.heap.size + 1 < _; omega)).trans T5.out
  have t6 := (hb1.cell (p := ⟨w.heap.size + 1, 6, none⟩) (by show w.heap.size + 1 < _; omega)).trans T6.out
  have e0 := (hb1.cell (p := ⟨w.heap.size + 1 + 1, 0, none⟩) (by show w.heap.size + 1 + 1 < _; omega)).trans E0.out
  have e1 := (hb1.cell (p := ⟨w.heap.size + 1 + 1, 1, none⟩) (by show w.heap.size + 1 + 1 < _; omega)).trans E1.out
  have e2 := (hb1.cell (p := ⟨w.heap.size + 1 + 1, 2, none⟩) (by show w.heap.size + 1 + 1 < _; omega)).trans E2.out
  have e3 := (hb1.cell (p := ⟨w.heap.size + 1 + 1, 3, none⟩) (by show w.heap.size + 1 + 1 < _; omega)).trans E3.out
  have e4 := (hb1.cell (p := ⟨w.heap.size + 1 + 1, 4, none⟩) (by show w.heap.size + 1 + 1 < _; omega)).trans E4.out
  have e5 := (hb1.cell (p := ⟨w.heap.size + 1 + 1, 5, none⟩) (by show w.heap.size + 1 + 1 < _; omega)).trans E5.out
  have HR1 := hid ((hb1.block (w.heap.size + 1 + 1 + 1) (by omega)).trans HRW.out)
  have r0 : W1.cell? ⟨w.heap.size + 1 + 1 + 1, 0, none⟩ = some (.int .i64 0) := by rw [Lib.cell_of_heap HR1.out]; rfl
  have r1 : W1.cell? ⟨w.heap.size + 1 + 1 + 1, 1, none⟩ = some (.int .i64 0) := by rw [Lib.cell_of_heap HR1.out]; rfl
  have r2 : W1.cell? ⟨w.heap.size + 1 + 1 + 1, 2, none⟩ = some (.int .i64 0) := by rw [Lib.cell_of_heap HR1.out]; rfl
  have r3 : W1.cell? ⟨w.heap.size + 1 + 1 + 1, 3, none⟩ = some (.slice none 0 0) := by rw [Lib.cell_of_heap HR1.out]; rfl
  have r4 : W1.cell? ⟨w.heap.size + 1 + 1 + 1, 4, none⟩ = some (.slice none 0 0) := by rw [Lib.cell_of_heap HR1.out]; rfl
  have r5 : W1.cell? ⟨w.heap.size + 1 + 1 + 1, 5, none⟩ = some (.slice none 0 0) := by rw [Lib.cell_of_heap HR1.out]; rfl
  have r6 : W1.cell? ⟨w.heap.size + 1 + 1 + 1, 6, none⟩ = some (.int .i64 0) := by rw [Lib.cell_of_heap HR1.out]; rfl
  have r7 : W1.cell? ⟨w.heap.size + 1 + 1 + 1, 7, none⟩ = some (.int .i64 0) := by rw [Lib.cell_of_heap HR1.out]; rfl
  have rf := Lib.frozen_of_heap HR1.out
  have HT := hid T
  have HD1 := hid (HDW.out.stay hb1)
  have HT1 := hid (HTW.out.stay hb1)
  have hRl : w.heap.size + 1 + 1 + 1 < W1.heap.size := by omega
  clear T hb1 cR HRW HDW HTW D0 D1 T0 T1 T2 T3 T4 T5 T6 E0 E1 E2 E3 E4 E5
  cases B1 with
  | false =>
    have HNO := hid (show ¬ ((DefP ss fs ∧ StP ss S) ∧ evB e = true) from fun h => absurd (HT.out.yes h.1) (by decide))
    go_wp2_with fail
    have hCR : Chg (fun j => j = w.heap.size + 1 + 1 + 1) W1 ((((((((W1.setCell ⟨w.heap.size + 1 + 1 + 1, 0, none⟩ (.int .i64 0)).setCell ⟨w.heap.size + 1 + 1 + 1, 1, none⟩ (.int .i64 0)).setCell ⟨w.heap.size + 1 + 1 + 1, 2, none⟩ (.int .i64 0)).setCell ⟨w.heap.size + 1 + 1 + 1, 3, none⟩ (.slice none 0 0)).setCell ⟨w.heap.size + 1 + 1 + 1, 4, none⟩ (.slice none 0 0)).setCell ⟨w.heap.size + 1 + 1 + 1, 5, none⟩ (.slice none 0 0)).setCell ⟨w.heap.size + 1 + 1 + 1, 6, none⟩ (.int .i64 0)).setCell ⟨w.heap.size + 1 + 1 + 1, 7, none⟩ (.int .i64 1)) := (((((((chg_set _ _ _ _).trans (chg_set _ _ _ _)).trans (chg_set _ _ _ _)).trans (chg_set _ _ _ _)).trans (chg_set _ _ _ _)).trans (chg_set _ _ _ _)).trans (chg_set _ _ _ _)).trans (chg_set _ _ _ _)
    refine bodyPost_ret (v := outV 1 z0 (.slice none 0 0) (.slice none 0 0) (.slice none 0 0)) (by simp [results, Tryz.results6, go_sem, outV, z0, r0, r1, r2, r3, r4, r5, r6, r7]) rfl ?_
    show StepPost _ _ (rS ss fs S e).1 (rS ss fs S e).2 _ _
    rw [rS_no HNO.out]
    exact ⟨_, _, _, rfl, StOwn.none _ _, HB1.out.trans (hCR.below (by omega) (fun j (h : j = _) => by omega))⟩
  | true =>
    have HY := hid (show DefP ss fs ∧ StP ss S from HT.out.1 rfl)
    have cE := hid (specEventRight_any e.seq e.time e.run e.kind e.step e.val W1 he)
    change Hid (Calls _ _ _ _ fun x w' => x = .returned (.bool (evB e)) ∧ _) at cE
    generalize hev : evB e = B2 at *
    go_wp2_with fail
    refine cE.out.mono ?_
    rintro x W2 ⟨rfl, hb2⟩
    have hz2 := hb2.size
    have HB2 := hid (HB1.out.trans (hb2.mono HB1.out.size))
    replace d0 := (hb2.cell (p := ⟨w.heap.size, 0, none⟩) (by show w.heap.size < _; omega)).trans d0
    replace d1 := (hb2.cell (p := ⟨w.heap.size, 1, none⟩) (by show w.heap.size < _; omega)).trans d1
    replace t0 := (hb2.cell (p := ⟨w.heap.size + 1, 0, none⟩) (by show w.heap.size + 1 < _; omega)).trans t0
    replace t1 := (hb2.cell (p := ⟨w.heap.size + 1, 1, none⟩) (by show w.heap.size + 1 < _; omega)).trans t1
    replace t2 := (hb2.cell (p := ⟨w.heap.size + 1, 2, none⟩) (by show w.heap.size + 1 < _; omega)).trans t2
    replace t3 := (hb2.cell (p := ⟨w.heap.size + 1, 3, none⟩) (by show w.heap.size + 1 < _; omega)).trans t3
    replace t4 := (hb2.cell (p := ⟨w.heap.size + 1, 4, none⟩) (by show w.heap.size + 1 < _; omega)).trans t4
    replace t5 := (hb2.cell (p := ⟨w.heap.size + 1, 5, none⟩) (by show w.heap.size + 1 < _; omega)).trans t5
    replace t6 := (hb2.cell (p := ⟨w.heap.size + 1, 6, none⟩) (by show w.heap.size + 1 < _; omega)).trans t6
    replace e0 := (hb2.cell (p := ⟨w.heap.size + 1 + 1, 0, none⟩) (by show w.heap.size + 1 + 1 < _; omega)).trans e0
    replace e1 := (hb2.cell (p := ⟨w.heap.size + 1 + 1, 1, none⟩) (by show w.heap.size + 1 + 1 < _; omega)).trans e1
    replace e2 := (hb2.cell (p := ⟨w.heap.size + 1 + 1, 2, none⟩) (by show w.heap.size + 1 + 1 < _; omega)).trans e2
    replace e3 := (hb2.cell (p := ⟨w.heap.size + 1 + 1, 3, none⟩) (by show w.heap.size + 1 + 1 < _; omega)).trans e3
    replace e4 := (hb2.cell (p := ⟨w.heap.size + 1 + 1, 4, none⟩) (by show w.heap.size + 1 + 1 < _; omega)).trans e4
    replace e5 := (hb2.cell (p := ⟨w.heap.size + 1 + 1, 5, none⟩) (by show w.heap.size + 1 + 1 < _; omega)).trans e5
    have HR2 := hid ((hb2.block (w.heap.size + 1 + 1 + 1) (by omega)).trans HR1.out)
    clear r0 r1 r2 r3 r4 r5 r6 r7 rf
    have r0 : W2.cell? ⟨w.heap.size + 1 + 1 + 1, 0, none⟩ = some (.int .i64 0) := by rw [Lib.cell_of_heap HR2.out]; rfl
    have r1 : W2.cell? ⟨w.heap.size + 1 + 1 + 1, 1, none⟩ = some (.int .i64 0) := by rw [Lib.cell_of_heap HR2.out]; rfl
    have r2 : W2.cell? ⟨w.heap.size + 1 + 1 + 1, 2, none⟩ = some (.int .i64 0) := by rw [Lib.cell_of_heap HR2.out]; rfl
    have r3 : W2.cell? ⟨w.heap.size + 1 + 1 + 1, 3, none⟩ = some (.slice none 0 0) := by rw [Lib.cell_of_heap HR2.out]; rfl
    have r4 : W2.cell? ⟨w.heap.size + 1 + 1 + 1, 4, none⟩ = some (.slice none 0 0) := by rw [Lib.cell_of_heap HR2.out]; rfl
    have r5 : W2.cell? ⟨w.heap.size + 1 + 1 + 1, 5, none⟩ = some (.slice none 0 0) := by rw [Lib.cell_of_heap HR2.out]; rfl
    have r6 : W2.cell? ⟨w.heap.size + 1 + 1 + 1, 6, none⟩ = some (.int .i64 0) := by rw [Lib.cell_of_heap HR2.out]; rfl
    have r7 : W2.cell? ⟨w.heap.size + 1 + 1 + 1, 7, none⟩ = some (.int .i64 0) := by rw [Lib.cell_of_heap HR2.out]; rfl
    have rf := Lib.frozen_of_heap HR2.out
    have HD2 := hid (HD1.out.stay hb2)
    have HT2 := hid (HT1.out.stay hb2)
    clear hb2 HD1 HT1 cE
    cases B2 with
    | false =>
      have HNO := hid (show ¬ ((DefP ss fs ∧ StP ss S) ∧ evB e = true) from fun h => by rw [hev] at h; exact absurd h.2 (by decide))
      clear hev
      go_wp2_with fail
      have hCR : Chg (fun j => j = w.heap.size + 1 + 1 + 1) W2 ((((((((W2.setCell ⟨w.heap.size + 1 + 1 + 1, 0, none⟩ (.int .i64 0)).setCell ⟨w.heap.size + 1 + 1 + 1, 1, none⟩ (.int .i64 0)).setCell ⟨w.heap.size + 1 + 1 + 1, 2, none⟩ (.int .i64 0)).setCell ⟨w.heap.size + 1 + 1 + 1, 3, none⟩ (.slice none 0 0)).setCell ⟨w.heap.size + 1 + 1 + 1, 4, none⟩ (.slice none 0 0)).setCell ⟨w.heap.size + 1 + 1 + 1, 5, none⟩ (.slice none 0 0)).setCell ⟨w.heap.size + 1 + 1 + 1, 6, none⟩ (.int .i64 0)).setCell ⟨w.heap.size + 1 + 1 + 1, 7, none⟩ (.int .i64 1)) := (((((((chg_set _ _ _ _).trans (chg_set _ _ _ _)).trans (chg_set _ _ _ _)).trans (chg_set _ _ _ _)).trans (chg_set _ _ _ _)).trans (chg_set _ _ _ _)).trans (chg_set _ _ _ _)).trans (chg_set _ _ _ _)
      refine bodyPost_ret (v := outV 1 z0 (.slice none 0 0) (.slice none 0 0) (.slice none 0 0)) (by simp [results, Tryz.results6, go_sem, outV, z0, r0, r1, r2, r3, r4, r5, r6, r7]) rfl ?_
      show StepPost _ _ (rS ss fs S e).1 (rS ss fs S e).2 _ _
      rw [rS_no HNO.out]
      exact ⟨_, _, _, rfl, StOwn.none _ _, HB2.out.trans (hCR.below (by omega) (fun j (h : j = _) => by omega))⟩
    | true =>
      have HP := hid (show (DefP ss fs ∧ StP ss S) ∧ evB e = true from ⟨HY.out, hev⟩)
      have sm := stP_small HY.out.2
      have cS := hid (l03Step_any a1 a2 a3 a4 a5 k1 k2 k3 k4 k5 ss fs S e W2 HD2.out HT2.out (by have := HY.out.1.1.n1; omega) HY.out.1.2.m (by omega) (by omega) (by omega) sm.2.2.2 (ev_kind hev))
      clear hev sm
      generalize hst : stepS ss fs S e = cs at *
      have HST := hid hst
      clear hst
      obtain ⟨c, S'⟩ := cs
      go_wp2_with fail
      refine cS.out.mono ?_
      rintro x W3 ⟨u3, u4, u5, rfl, hO, hb⟩
      obtain ⟨x3a, x4a, x5a, x3c, x4c, x5c, rfl, rfl, rfl⟩ := hO.forms
      have HO := hid hO
      have HR3 := hid ((hb.block (w.heap.size + 1 + 1 + 1) (by omega)).trans HR2.out)
      have hz9 := hb.size
      have HBF := hid (HB2.out.trans (hb.mono HB2.out.size))
      clear hO hb d0 d1 t0 t1 t2 t3 t4 t5 t6 e0 e1 e2 e3 e4 e5 r0 r1 r2 r3 r4 r5 r6 r7 rf
      have r0 : W3.cell? ⟨w.heap.size + 1 + 1 + 1, 0, none⟩ = some (.int .i64 0) := by rw [Lib.cell_of_heap HR3.out]; rfl
      have r1 : W3.cell? ⟨w.heap.size + 1 + 1 + 1, 1, none⟩ = some (.int .i64 0) := by rw [Lib.cell_of_heap HR3.out]; rfl
      have r2 : W3.cell? ⟨w.heap.size + 1 + 1 + 1, 2, none⟩ = some (.int .i64 0) := by rw [Lib.cell_of_heap HR3.out]; rfl
      have r3 : W3.cell? ⟨w.heap.size + 1 + 1 + 1, 3, none⟩ = some (.slice none 0 0) := by rw [Lib.cell_of_heap HR3.out]; rfl
      have r4 : W3.cell? ⟨w.heap.size + 1 + 1 + 1, 4, none⟩ = some (.slice none 0 0) := by rw [Lib.cell_of_heap HR3.out]; rfl
      have r5 : W3.cell? ⟨w.heap.size + 1 + 1 + 1, 5, none⟩ = some (.slice none 0 0) := by rw [Lib.cell_of_heap HR3.out]; rfl
      have r6 : W3.cell? ⟨w.heap.size + 1 + 1 + 1, 6, none⟩ = some (.int .i64 0) := by rw [Lib.cell_of_heap HR3.out]; rfl
      have r7 : W3.cell? ⟨w.heap.size + 1 + 1 + 1, 7, none⟩ = some (.int .i64 0) := by rw [Lib.cell_of_heap HR3.out]; rfl
      have rf := Lib.frozen_of_heap HR3.out
      unfold outV
      go_wp2_with fail
      have hCR : Chg (fun j => j = w.heap.size + 1 + 1 + 1) W3 ((((((((W3.setCell ⟨w.heap.size + 1 + 1 + 1, 0, none⟩ (.int .i64 S'.status)).setCell ⟨w.heap.size + 1 + 1 + 1, 1, none⟩ (.int .i64 S'.begun)).setCell ⟨w.heap.size + 1 + 1 + 1, 2, none⟩ (.int .i64 S'.last)).setCell ⟨w.heap.size + 1 + 1 + 1, 3, none⟩ (.slice x3a S'.wait.length x3c)).setCell ⟨w.heap.size + 1 + 1 + 1, 4, none⟩ (.slice x4a S'.busy.length x4c)).setCell ⟨w.heap.size + 1 + 1 + 1, 5, none⟩ (.slice x5a S'.vars.length x5c)).setCell ⟨w.heap.size + 1 + 1 + 1, 6, none⟩ (.int .i64 S'.faults)).setCell ⟨w.heap.size + 1 + 1 + 1, 7, none⟩ (.int .i64 c)) := (((((((chg_set _ _ _ _).trans (chg_set _ _ _ _)).trans (chg_set _ _ _ _)).trans (chg_set _ _ _ _)).trans (chg_set _ _ _ _)).trans (chg_set _ _ _ _)).trans (chg_set _ _ _ _)).trans (chg_set _ _ _ _)
      refine bodyPost_ret (v := outV c S' (.slice x3a S'.wait.length x3c) (.slice x4a S'.busy.length x4c) (.slice x5a S'.vars.length x5c)) (by simp [results, Tryz.results6, go_sem, outV, r0, r1, r2, r3, r4, r5, r6, r7]) rfl ?_
      show StepPost _ _ (rS ss fs S e).1 (rS ss fs S e).2 _ _
      rw [rS_yes HP.out, HST.out]
      exact ⟨_, _, _, rfl, (HO.out.turn hCR HR3.out (by decide) (by decide)).le (by omega), HBF.out.trans (hCR.below (by omega) (fun j (h : j = _) => by omega))⟩
end Go.Proofs.YtdggmeblnbabbaaGreatDoor
