/-
  The law FnState, walked: it answers true, whatever bytes it draws from. (Made by mkfslaw.py.)
-/
import Derived.Test.YtdggmeblnbabbaaGreatDoorZStLw3
import Derived.Test.YtdggmeblnbabbaaGreatDoorZDrSs
import Derived.Test.YtdggmeblnbabbaaGreatDoorZDrSo
import Derived.Test.YtdggmeblnbabbaaGreatDoorZImSS
import Derived.Test.YtdggmeblnbabbaaGreatDoorZImSO
import Derived.Test.YtdggmeblnbabbaaGreatDoorZSpSO
namespace Go.Proofs.YtdggmeblnbabbaaGreatDoor
open Go.RowKit Go.Sort
set_option linter.unusedVariables false

theorem LwA.start {X : World} {u1 u2 u3 u4 u5 : Value} {ss : List ByteArray} {fs : List Pr} {S : St} {E : Ev} {e0 e1 e2 e3 e4 : Addr} {lo : Nat} (o1 : X.ownsRow lo 9 1 u1 ss.length (ss.map Value.string)) (o2 : X.ownsRow lo 41 2 u2 fs.length (fs.flatMap Pr.cells)) (os : StOwn X lo u3 u4 u5 S) (er : ErrsAt X e0 e1 e2 e3 e4) :
    LwA (((X.alloc (.cells [u1, u2].toArray 26)).alloc (.cells (stLs u3 u4 u5 S).toArray 29)).alloc (.cells E.cells.toArray 31)) X.heap.size (X.heap.size + 1) (X.heap.size + 1 + 1) u1 u2 u3 u4 u5 ss fs S E e0 e1 e2 e3 e4 := by
  have hb : Below X.heap.size X (((X.alloc (.cells [u1, u2].toArray 26)).alloc (.cells (stLs u3 u4 u5 S).toArray 29)).alloc (.cells E.cells.toArray 31)) := (((Below.refl _ _).alloc (Nat.le_refl _) _).alloc (by simp) _).alloc (by simp; omega) _
  have q1 := heap_alloc_new (X.alloc (.cells [u1, u2].toArray 26)) (.cells (stLs u3 u4 u5 S).toArray 29)
  rw [show (X.alloc (.cells [u1, u2].toArray 26)).heap.size = X.heap.size + 1 by simp] at q1
  have q2 := heap_alloc_new ((X.alloc (.cells [u1, u2].toArray 26)).alloc (.cells (stLs u3 u4 u5 S).toArray 29)) (.cells E.cells.toArray 31)
  rw [show ((X.alloc (.cells [u1, u2].toArray 26)).alloc (.cells (stLs u3 u4 u5 S).toArray 29)).heap.size = X.heap.size + 1 + 1 by simp] at q2
  exact ⟨(Below.heap_alloc _ _ _ (by simp; omega)).trans ((Below.heap_alloc _ _ _ (by simp)).trans (heap_alloc_new X _)), (Below.heap_alloc _ _ _ (by simp)).trans q1, q2, ownB_le (ownB_stay o1 hb) (Nat.zero_le _), ownB_le (ownB_stay o2 hb) (Nat.zero_le _), (os.stay hb).le (Nat.zero_le _), er.stay hb⟩
set_option maxHeartbeats 32000000 in
set_option maxRecDepth 1000000 in
theorem fnState_walk (p1 p2 : Option Addr) (n1 n2 c1 c2 : Nat) (w : World) (h1 : Bs w (.slice p1 n1 c1) n1) (h2 : Bs w (.slice p2 n2 c2) n2) (hn : (n1 : Int) ≤ 1048576 ∧ (n2 : Int) ≤ 1048576) (e0 e1 e2 e3 e4 : Addr) (hEr : ErrsAt w e0 e1 e2 e3 e4) :
    Calls Tryz.prog 3 #[.slice p1 n1 c1, .slice p2 n2 c2] w fun e w' => e = .returned (.bool true) ∧ Below w.heap.size w w' := by
  have mixed : Tryz.prog.follows .mixedOrders = true := by kernel_rfl
  have z1 : (n1 : Int) ≤ 1048576 := hn.1
  have z2 : (n2 : Int) ≤ 1048576 := hn.2
  clear hn
  have H1 := hid h1
  have H2 := hid h2
  have HER := hid hEr
  clear h1 h2 hEr
  go_enter Tryz.func3, Tryz.ntmps3
  go_wp2_with fail
  refine (drawStateStep_any _ n1 w H1.out).mono ?_
  rintro e W1 ⟨u1, u2, u3, u4, u5, ss, fs, S, ⟨q0, q1, q2, q3, q4, q5⟩, hx, hE, hD⟩
  obtain ⟨a1, k1, rfl⟩ := ownB_form hD.o1
  obtain ⟨a2, k2, rfl⟩ := ownB_form hD.o2
  obtain ⟨a3, a4, a5, k3, k4, k5, rfl, rfl, rfl⟩ := hD.os.forms
  replace hx : e = .returned (.tuple #[.agg #[.slice a1 ss.length k1, .slice a2 fs.length k2], .agg #[.int .i64 S.status, .int .i64 S.begun, .int .i64 S.last, .slice a3 S.wait.length k3, .slice a4 S.busy.length k4, .slice a5 S.vars.length k5, .int .i64 S.faults], .agg #[.int .i64 q0, .int .i64 q1, .int .i64 q2, .int .i64 q3, .string q4, .string q5]]) := hx
  subst hx
  have hb2 : Below W1.heap.size W1 (((W1.alloc (.cells [.slice a1 ss.length k1, .slice a2 fs.length k2].toArray 26)).alloc (.cells [.int .i64 S.status, .int .i64 S.begun, .int .i64 S.last, .slice a3 S.wait.length k3, .slice a4 S.busy.length k4, .slice a5 S.vars.length k5, .int .i64 S.faults].toArray 29)).alloc (.cells [.int .i64 q0, .int .i64 q1, .int .i64 q2, .int .i64 q3, .string q4, .string q5].toArray 31)) := (((Below.refl _ _).alloc (Nat.le_refl _) _).alloc (by simp) _).alloc (by simp; omega) _
  have B2 := hid (hD.bl.trans (hb2.mono hD.bl.size))
  have A2 : Hid (LwA (((W1.alloc (.cells [.slice a1 ss.length k1, .slice a2 fs.length k2].toArray 26)).alloc (.cells [.int .i64 S.status, .int .i64 S.begun, .int .i64 S.last, .slice a3 S.wait.length k3, .slice a4 S.busy.length k4, .slice a5 S.vars.length k5, .int .i64 S.faults].toArray 29)).alloc (.cells [.int .i64 q0, .int .i64 q1, .int .i64 q2, .int .i64 q3, .string q4, .string q5].toArray 31)) W1.heap.size (W1.heap.size + 1) (W1.heap.size + 1 + 1) (.slice a1 ss.length k1) (.slice a2 fs.length k2) (.slice a3 S.wait.length k3) (.slice a4 S.busy.length k4) (.slice a5 S.vars.length k5) ss fs S ⟨q0, q1, q2, q3, q4, q5⟩ e0 e1 e2 e3 e4) := hid (LwA.start (E := ⟨q0, q1, q2, q3, q4, q5⟩) hD.o1 hD.o2 hD.os (HER.out.stay hD.bl))
  have hsm := hid hD.sm
  have hsh := hid hD.sh
  have hle := hD.len
  have hE := hid hE
  clear hD hb2 H1
  go_upto_region 4 with fail
  generalize (((W1.alloc (.cells [.slice a1 ss.length k1, .slice a2 fs.length k2].toArray 26)).alloc (.cells [.int .i64 S.status, .int .i64 S.begun, .int .i64 S.last, .slice a3 S.wait.length k3, .slice a4 S.busy.length k4, .slice a5 S.vars.length k5, .int .i64 S.faults].toArray 29)).alloc (.cells [.int .i64 q0, .int .i64 q1, .int .i64 q2, .int .i64 q3, .string q4, .string q5].toArray 31)) = W2 at *
  generalize W1.heap.size = gd at *
  have F1 := hid (show ∀ i, (h : i < ss.length) → ss[i].size ≤ maxLen from fun i h => by have := hsh.out.1 _ (List.getElem_mem h); unfold maxLen; omega)
  have F2 := hid (show FitP fs from fun i h => by have := hsh.out.2 _ (List.getElem_mem h); unfold maxLen; omega)
  have N1 := hid (show ss.length ≤ maxLen by unfold maxLen; omega)
  have N2 := hid (show fs.length ≤ maxLen by unfold maxLen; omega)
  have N3 := hid (show S.wait.length ≤ maxLen by have := hsm.out.w; unfold maxLen; omega)
  have N4 := hid (show S.busy.length ≤ maxLen by have := hsm.out.b; unfold maxLen; omega)
  have N5 := hid (show S.vars.length ≤ maxLen by have := hsm.out.v; unfold maxLen; omega)
  have F5 := hid (fit_small hsm.out.sv)
  have he4 := hid (show q4.size ≤ maxLen by have h9 : q4.size ≤ 100 := hE.out.1; unfold maxLen; omega)
  have hle9 := hid hle.2
  clear hle
  have cIm := hid (implStateStep_any a1 a2 a3 a4 a5 k1 k2 k3 k4 k5 ss fs S ⟨q0, q1, q2, q3, q4, q5⟩ W2 (own_dsl A2.out.o1 A2.out.o2) (own_ssl A2.out.os) F1.out F5.out he4.out N1.out N2.out N3.out N4.out N5.out F2.out e0 e1 e2 e3 e4 A2.out.er)
  have cSp := hid (fun X (hb : Below W2.heap.size W2 X) => specStateStep_any a1 a2 a3 a4 a5 k1 k2 k3 k4 k5 ss fs S ⟨q0, q1, q2, q3, q4, q5⟩ X (own_dsl (ownB_stay A2.out.o1 hb) (ownB_stay A2.out.o2 hb)) (own_ssl (A2.out.os.stay hb)) F1.out F5.out he4.out N1.out N2.out N3.out N4.out N5.out)
  have hlw : LowS (rS ss fs S ⟨q0, q1, q2, q3, q4, q5⟩).2 := rS_low
  have hlaw := hid (fun h => rS_law (ss := ss) (fs := fs) (S := S) (e := ⟨q0, q1, q2, q3, q4, q5⟩) h)
  generalize hrs : rS ss fs S ⟨q0, q1, q2, q3, q4, q5⟩ = cs at *
  clear hrs
  obtain ⟨c, T⟩ := cs
  simp only at hlw hlaw cIm cSp
  obtain ⟨⟨d0, d1⟩, ⟨y0, y1, y2, y3, y4, y5, y6⟩, x0, x1, x2, x3, x4, x5⟩ := A2.out.cells
  go_wp2_with fail
  refine cIm.out.mono ?_
  rintro e W3 ⟨v3, v4, v5, hx, hO, hb3⟩
  obtain ⟨b3, b4, b5, j3, j4, j5, rfl, rfl, rfl⟩ := hO.forms
  replace hx : e = .returned (.agg #[.int .i64 T.status, .int .i64 T.begun, .int .i64 T.last, .slice b3 T.wait.length j3, .slice b4 T.busy.length j4, .slice b5 T.vars.length j5, .int .i64 T.faults, .int .i64 c]) := hx
  subst hx
  have O4 := hid (OutB.made (c := c) hO)
  have hb4 : Below W2.heap.size W2 (W3.alloc (.cells [.int .i64 T.status, .int .i64 T.begun, .int .i64 T.last, .slice b3 T.wait.length j3, .slice b4 T.busy.length j4, .slice b5 T.vars.length j5, .int .i64 T.faults, .int .i64 c].toArray 35)) := hb3.trans ((Below.refl _ _).alloc hb3.size _)
  have A4 := hid (A2.out.stay hb4)
  have B4 := hid (B2.out.trans (hb4.mono B2.out.size))
  have cS4 := cSp.out _ hb4
  clear d0 d1 y0 y1 y2 y3 y4 y5 y6 x0 x1 x2 x3 x4 x5 hO hb3 hb4 A2 B2 cIm cSp
  obtain ⟨⟨d0, d1⟩, ⟨y0, y1, y2, y3, y4, y5, y6⟩, x0, x1, x2, x3, x4, x5⟩ := A4.out.cells
  go_upto_region 5 with fail
  generalize (W3.alloc (.cells [.int .i64 T.status, .int .i64 T.begun, .int .i64 T.last, .slice b3 T.wait.length j3, .slice b4 T.busy.length j4, .slice b5 T.vars.length j5, .int .i64 T.faults, .int .i64 c].toArray 35)) = W4 at *
  generalize W3.heap.size = g8 at *
  go_wp2_with fail
  refine cS4.mono ?_
  rintro e W5 ⟨v3, v4, v5, hx, hO, hb5⟩
  obtain ⟨d3, d4, d5, l3, l4, l5, rfl, rfl, rfl⟩ := hO.forms
  replace hx : e = .returned (.agg #[.int .i64 T.status, .int .i64 T.begun, .int .i64 T.last, .slice d3 T.wait.length l3, .slice d4 T.busy.length l4, .slice d5 T.vars.length l5, .int .i64 T.faults, .int .i64 c]) := hx
  subst hx
  have R6 := hid (OutB.made (c := c) hO)
  have hb6 : Below W4.heap.size W4 (W5.alloc (.cells [.int .i64 T.status, .int .i64 T.begun, .int .i64 T.last, .slice d3 T.wait.length l3, .slice d4 T.busy.length l4, .slice d5 T.vars.length l5, .int .i64 T.faults, .int .i64 c].toArray 35)) := hb5.trans ((Below.refl _ _).alloc hb5.size _)
  have A6 := hid (A4.out.stay hb6)
  have B6 := hid (B4.out.trans (hb6.mono B4.out.size))
  have O6 := hid (O4.out.stay hb6)
  clear d0 d1 y0 y1 y2 y3 y4 y5 y6 x0 x1 x2 x3 x4 x5 hO hb5 hb6 A4 B4 O4 cS4
  go_upto_region 6 with fail
  generalize (W5.alloc (.cells [.int .i64 T.status, .int .i64 T.begun, .int .i64 T.last, .slice d3 T.wait.length l3, .slice d4 T.busy.length l4, .slice d5 T.vars.length l5, .int .i64 T.faults, .int .i64 c].toArray 35)) = W6 at *
  generalize W5.heap.size = g9 at *
  obtain ⟨RT, hRT⟩ := bool_of (DefP ss fs ∧ StP ss S)
  obtain ⟨RD, hRD⟩ := bool_of (DefP ss fs)
  have cI1 := hid (fun X (hb : Below W6.heap.size W6 X) => calls_bool hRT (implStateRight_any a1 a2 a3 a4 a5 k1 k2 k3 k4 k5 ss fs S.status S.begun S.last S.faults S.wait S.busy S.vars X (pr_of_own (ownB_stay A6.out.o2 hb)) F1.out N2.out (str_of_own (ownB_stay A6.out.o1 hb)) (str_of_own (A6.out.os.stay hb).o3) (str_of_own (A6.out.os.stay hb).o4) (pr_of_own (A6.out.os.stay hb).o5) F5.out N1.out N3.out N4.out N5.out))
  have cI2 := hid (fun X (hb : Below W6.heap.size W6 X) => calls_bool hRT (specStateRight_any a1 a2 a3 a4 a5 k1 k2 k3 k4 k5 ss fs S.status S.begun S.last S.faults S.wait S.busy S.vars X (pr_of_own (ownB_stay A6.out.o2 hb)) F1.out N2.out (str_of_own (ownB_stay A6.out.o1 hb)) (str_of_own (A6.out.os.stay hb).o3) (str_of_own (A6.out.os.stay hb).o4) (pr_of_own (A6.out.os.stay hb).o5) F5.out N1.out N3.out N4.out N5.out))
  have cI3 := hid (fun X (hb : Below W6.heap.size W6 X) => calls_bool hRD (implDefRight_any a1 a2 k1 k2 ss fs X (str_of_own (ownB_stay A6.out.o1 hb)) (pr_of_own (ownB_stay A6.out.o2 hb)) F1.out N1.out N2.out))
  have cI4 := hid (fun X (hb : Below W6.heap.size W6 X) => calls_bool hRD (specDefRight_any a1 a2 k1 k2 ss fs X (str_of_own (ownB_stay A6.out.o1 hb)) (pr_of_own (ownB_stay A6.out.o2 hb)) F1.out N1.out N2.out))
  have cI5 := hid (fun X (hb : Below W6.heap.size W6 X) => lwState_any b3 b4 b5 d3 d4 d5 j3 j4 j5 l3 l4 l5 T X (own_ssl (O6.out.os.stay hb)) (own_ssl (R6.out.os.stay hb)) hlw.max.1 hlw.max.2.1 hlw.max.2.2)
  clear hRT hRD
  refine wp_region_ok mixed 29 [[],[0],[],[2],[0,1,2,3],[0,1,2,3,4],[0,1,2,3,4,5],[0,1,2,3,4,5,6],[0,1,2,3,4,5],[0,1,2,3,4,5,8],[0,1,2,3,4,5,6,7,8,9],[0,1,2,3,4,5,6,7,8,9,10],[0,1,2,3,4,5,6,7,8,9,10,11],[0,1,2,3,4,5,6,7,8,9,10,11,12],[0,1,2,3,4,5,6,7,8,9,10,11,12,13],[0,1,2,3,4,5,6,7,8,9,10,11,12,13],[0,1,2,3,4,5,6,7,8,9,10,11,12,13,14,15],[0,1,2,3,4,5,6,7,8,9,10,11,12,13],[0,1,2,3,4,5,6,7,8,9,10,11,12,13],[0,1,2,3,4,5,6,7,8,9,10,11,12,13,17,18],[0,1,2,3,4,5,6,7,8,9,10,11,12,13,14,15,16,17,18,19],[0,1,2,3,4,5,6,7,8,9,10,11,12,13,14,15,16,17,18,19,20],[0,1,2,3,4,5,6,7,8,9,10,11,12,13,14,15,16,17,18,19,20,21],[0,1,2,3,4,5,6,7,8,9,10,11,12,13,14,15,16,17,18,19,20,21,22],[0,1,2,3,4,5,6,7,8,9,10,11,12,13,14,15,16,17,18,19,20,21,22,23],[0,1,2,3,4,5,6,7,8,9,10,11,12,13,14,15,16,17,18,19,20,21,22],[0,1,2,3,4,5,6,7,8,9,10,11,12,13,14,15,16,17,18,19,20,21,22,25],[0,1,2,3,4,5,6,7,8,9,10,11,12,13,14,15,16,17,18,19,20,21,22,23,24,25,26],[0,1,2,3,4,5,6,7,8,9,10,11,12,13,14,15,16,17,18,19,20,21,22,23,24,25,26,27]] (fun v => { tmps := #[.slice p1 n1 c1, .slice p2 n2 c2, undef, undef, .bool false, .pointer (some ⟨gd, 0, none⟩), .pointer (some ⟨gd + 1, 0, none⟩), .pointer (some ⟨gd + 1 + 1, 0, none⟩), .pointer (some ⟨g8, 0, none⟩), .pointer (some ⟨g9, 0, none⟩), undef, undef, undef, undef, undef, undef, undef, undef, undef, undef, .slice p1 n1 c1, .int .i64 (n1 : Int), .bool (decide (1048576 < (n1 : Int))), .bool (decide (1048576 < (n1 : Int))), .slice p2 n2 c2, .int .i64 (n2 : Int), .bool (decide (1048576 < (n2 : Int))), .bool (decide (1048576 < (n1 : Int)) || decide (1048576 < (n2 : Int))), .tuple #[.agg #[.slice a1 ss.length k1, .slice a2 fs.length k2], .agg #[.int .i64 S.status, .int .i64 S.begun, .int .i64 S.last, .slice a3 S.wait.length k3, .slice a4 S.busy.length k4, .slice a5 S.vars.length k5, .int .i64 S.faults], .agg #[.int .i64 q0, .int .i64 q1, .int .i64 q2, .int .i64 q3, .string q4, .string q5]], .slice p1 n1 c1, .tuple #[.agg #[.slice a1 ss.length k1, .slice a2 fs.length k2], .agg #[.int .i64 S.status, .int .i64 S.begun, .int .i64 S.last, .slice a3 S.wait.length k3, .slice a4 S.busy.length k4, .slice a5 S.vars.length k5, .int .i64 S.faults], .agg #[.int .i64 q0, .int .i64 q1, .int .i64 q2, .int .i64 q3, .string q4, .string q5]], .agg #[.slice a1 ss.length k1, .slice a2 fs.length k2], .agg #[.int .i64 S.status, .int .i64 S.begun, .int .i64 S.last, .slice a3 S.wait.length k3, .slice a4 S.busy.length k4, .slice a5 S.vars.length k5, .int .i64 S.faults], .agg #[.int .i64 q0, .int .i64 q1, .int .i64 q2, .int .i64 q3, .string q4, .string q5], .agg #[.slice a1 ss.length k1, .slice a2 fs.length k2], .agg #[.int .i64 S.status, .int .i64 S.begun, .int .i64 S.last, .slice a3 S.wait.length k3, .slice a4 S.busy.length k4, .slice a5 S.vars.length k5, .int .i64 S.faults], .agg #[.int .i64 q0, .int .i64 q1, .int .i64 q2, .int .i64 q3, .string q4, .string q5], .agg #[.int .i64 T.status, .int .i64 T.begun, .int .i64 T.last, .slice b3 T.wait.length j3, .slice b4 T.busy.length j4, .slice b5 T.vars.length j5, .int .i64 T.faults, .int .i64 c], .agg #[.slice a1 ss.length k1, .slice a2 fs.length k2], .agg #[.int .i64 S.status, .int .i64 S.begun, .int .i64 S.last, .slice a3 S.wait.length k3, .slice a4 S.busy.length k4, .slice a5 S.vars.length k5, .int .i64 S.faults], .agg #[.int .i64 q0, .int .i64 q1, .int .i64 q2, .int .i64 q3, .string q4, .string q5], .agg #[.int .i64 T.status, .int .i64 T.begun, .int .i64 T.last, .slice d3 T.wait.length l3, .slice d4 T.busy.length l4, .slice d5 T.vars.length l5, .int .i64 T.faults, .int .i64 c], v 0, v 1, v 2, v 3, v 4, v 5, v 6, v 7, v 8, v 9, v 10, v 11, v 12, v 13, v 14, v 15, v 16, v 17, v 18, v 19, v 20, v 21, v 22, v 23, v 24, v 25, v 26, v 27, v 28, undef, undef, undef, undef, undef, undef, undef, undef, undef, undef, undef, undef, undef, undef, undef, undef, undef, undef, undef, undef, undef, undef, undef, undef, undef, undef, undef, undef, undef, undef, undef, undef, undef, undef, undef, undef, undef, undef, undef, undef, undef, undef, undef, undef, undef, undef, undef, undef, undef, undef, undef, undef, undef, undef, undef, undef, undef, undef, undef, undef, undef, undef, undef, undef, undef, undef, undef, undef, undef, undef, undef, undef, undef, undef, undef, undef, undef, undef, undef, undef, undef, undef, undef, undef, undef, undef, undef, undef, undef, undef, undef, undef, undef, undef, undef, undef, undef, undef, undef, undef, undef, undef, undef, undef, undef, undef, undef, undef, undef, undef, undef, undef, undef, undef, undef, undef, undef, undef, undef, undef, undef, undef, undef, undef, undef, undef, undef, undef, undef, undef, undef, undef, undef, undef, undef, undef, undef, undef, undef, undef, undef, undef, undef, undef, undef, undef, undef, undef, undef, undef, undef, undef], defers := [] }) (fun i9 => match i9 with | _ => undef) (fun i9 x X => match i9 with
    | 0 => x = .pointer (some ⟨g8, 7, none⟩)
    | 1 => x = .int .i64 c
    | 2 => x = .pointer (some ⟨g9, 7, none⟩)
    | 3 => x = .int .i64 c
    | 4 => x = .bool false
    | 5 => x = .bool false
    | 6 => x = .pointer (some ⟨g8, 0, none⟩)
    | 7 => x = .agg #[.int .i64 T.status, .int .i64 T.begun, .int .i64 T.last, .slice b3 T.wait.length j3, .slice b4 T.busy.length j4, .slice b5 T.vars.length j5, .int .i64 T.faults]
    | 8 => x = .pointer (some ⟨g9, 0, none⟩)
    | 9 => x = .agg #[.int .i64 T.status, .int .i64 T.begun, .int .i64 T.last, .slice d3 T.wait.length l3, .slice d4 T.busy.length l4, .slice d5 T.vars.length l5, .int .i64 T.faults]
    | 10 => x = .bool true
    | 11 => x = .bool false
    | 12 => x = .bool false
    | 13 => x = .bool false
    | 14 => x = .agg #[.slice a1 ss.length k1, .slice a2 fs.length k2]
    | 15 => x = .agg #[.int .i64 S.status, .int .i64 S.begun, .int .i64 S.last, .slice a3 S.wait.length k3, .slice a4 S.busy.length k4, .slice a5 S.vars.length k5, .int .i64 S.faults]
    | 16 => x = .bool RT
    | 17 => x = .agg #[.slice a1 ss.length k1, .slice a2 fs.length k2]
    | 18 => x = .agg #[.int .i64 S.status, .int .i64 S.begun, .int .i64 S.last, .slice a3 S.wait.length k3, .slice a4 S.busy.length k4, .slice a5 S.vars.length k5, .int .i64 S.faults]
    | 19 => x = .bool RT
    | 20 => x = .bool false
    | 21 => x = .bool false
    | 22 => x = .bool false
    | 23 => x = .agg #[.slice a1 ss.length k1, .slice a2 fs.length k2]
    | 24 => x = .bool RD
    | 25 => x = .agg #[.slice a1 ss.length k1, .slice a2 fs.length k2]
    | 26 => x = .bool RD
    | 27 => x = .bool false
    | 28 => x = .bool false
    | _ => True) (fun X => Below W6.heap.size W6 X) (fun X X' => Below X.heap.size X X') (by kernel_rfl) rfl ((Below.refl _ _).drew) ?mono ?step ?fin
  case mono =>
    intro i9 x X X' hi9 hG hS h
    match i9, hi9 with
    | 0, _ | 1, _ | 2, _ | 3, _ | 4, _ | 5, _ | 6, _ | 7, _ | 8, _ | 9, _ | 10, _ | 11, _ | 12, _ | 13, _ | 14, _ | 15, _ | 16, _ | 17, _ | 18, _ | 19, _ | 20, _ | 21, _ | 22, _ | 23, _ | 24, _ | 25, _ | 26, _ | 27, _ | 28, _ => exact h
    | n9 + 29, h9 => exact absurd h9 (by omega)
  case step =>
    intro i9 v X hi9 hG hd hu K hK
    have HU := hid hu
    clear hu
    obtain ⟨⟨d0, d1⟩, ⟨y0, y1, y2, y3, y4, y5, y6⟩, x0, x1, x2, x3, x4, x5⟩ := (A6.out.stay hG).cells
    obtain ⟨t0, t1, t2, t3, t4, t5, t6, t7⟩ := (O6.out.stay hG).cells
    obtain ⟨r0, r1, r2, r3, r4, r5, r6, r7⟩ := (R6.out.stay hG).cells
    match i9, hi9 with
    | 0, _ =>
      refine op_go rfl rfl ?_
      go_simp
      exact hK.out _ v _ _ rfl rfl rfl hG (Below.refl _ _)
    | 1, _ =>
      have q0 : v 0 = .pointer (some ⟨g8, 7, none⟩) := hd 0 (by decide)
      refine op_go rfl rfl ?_
      go_simp
      exact hK.out _ (upd v 0 _) _ _ (upd_on rfl q0) rfl rfl hG (Below.refl _ _)
    | 2, _ =>
      refine op_go rfl rfl ?_
      go_simp
      exact hK.out _ v _ _ rfl rfl rfl hG (Below.refl _ _)
    | 3, _ =>
      have q2 : v 2 = .pointer (some ⟨g9, 7, none⟩) := hd 2 (by decide)
      refine op_go rfl rfl ?_
      go_simp
      exact hK.out _ (upd v 2 _) _ _ (upd_on rfl q2) rfl rfl hG (Below.refl _ _)
    | 4, _ =>
      have q1 : v 1 = .int .i64 c := hd 1 (by decide)
      have q3 : v 3 = .int .i64 c := hd 3 (by decide)
      refine op_go rfl rfl ?_
      go_simp
      exact hK.out _ (upd (upd v 1 _) 3 _) _ _ (upd_on (upd_on rfl q1) q3) rfl rfl hG (Below.refl _ _)
    | 5, _ =>
      have q4 : v 4 = .bool false := hd 4 (by decide)
      refine op_go rfl rfl ?_
      go_simp
      exact hK.out _ (upd v 4 _) _ _ (upd_on rfl q4) rfl rfl hG (Below.refl _ _)
    | 6, _ =>
      have q5 : v 5 = .bool false := hd 5 (by decide)
      refine op_want rfl (by simp [Region.wanted, yielded, q5]) ?_
      go_simp
      exact hK.out _ (upd v 5 _) _ _ (upd_on rfl q5) rfl rfl hG (Below.refl _ _)
    | 7, _ =>
      have q5 : v 5 = .bool false := hd 5 (by decide)
      have q6 : v 6 = .pointer (some ⟨g8, 0, none⟩) := hd 6 (by decide)
      refine op_want rfl (by simp [Region.wanted, yielded, q5]) ?_
      go_simp
      exact hK.out _ (upd (upd v 5 _) 6 _) _ _ (upd_on (upd_on rfl q5) q6) rfl rfl hG (Below.refl _ _)
    | 8, _ =>
      have q5 : v 5 = .bool false := hd 5 (by decide)
      refine op_want rfl (by simp [Region.wanted, yielded, q5]) ?_
      go_simp
      exact hK.out _ (upd v 5 _) _ _ (upd_on rfl q5) rfl rfl hG (Below.refl _ _)
    | 9, _ =>
      have q5 : v 5 = .bool false := hd 5 (by decide)
      have q8 : v 8 = .pointer (some ⟨g9, 0, none⟩) := hd 8 (by decide)
      refine op_want rfl (by simp [Region.wanted, yielded, q5]) ?_
      go_simp
      exact hK.out _ (upd (upd v 5 _) 8 _) _ _ (upd_on (upd_on rfl q5) q8) rfl rfl hG (Below.refl _ _)
    | 10, _ =>
      have q5 : v 5 = .bool false := hd 5 (by decide)
      have q7 : v 7 = .agg #[.int .i64 T.status, .int .i64 T.begun, .int .i64 T.last, .slice b3 T.wait.length j3, .slice b4 T.busy.length j4, .slice b5 T.vars.length j5, .int .i64 T.faults] := hd 7 (by decide)
      have q9 : v 9 = .agg #[.int .i64 T.status, .int .i64 T.begun, .int .i64 T.last, .slice d3 T.wait.length l3, .slice d4 T.busy.length l4, .slice d5 T.vars.length l5, .int .i64 T.faults] := hd 9 (by decide)
      refine op_want rfl (by simp [Region.wanted, yielded, q5]) ?_
      go_simp
      refine (cI5.out _ hG).mono ?_
      rintro e X' ⟨rfl, hb'⟩
      exact hK.out _ (upd (upd (upd v 5 _) 7 _) 9 _) _ _ (upd_on (upd_on (upd_on rfl q5) q7) q9) rfl rfl (hG.trans (hb'.mono hG.size)) hb'
    | 11, _ =>
      have q5 : v 5 = .bool false := hd 5 (by decide)
      have q10 : v 10 = .bool true := hd 10 (by decide)
      refine op_want rfl (by simp [Region.wanted, yielded, q5]) ?_
      go_simp
      exact hK.out _ (upd (upd v 5 _) 10 _) _ _ (upd_on (upd_on rfl q5) q10) rfl rfl hG (Below.refl _ _)
    | 12, _ =>
      have q5 : v 5 = .bool false := hd 5 (by decide)
      have q11 : v 11 = .bool false := hd 11 (by decide)
      refine op_go rfl rfl ?_
      go_simp
      exact hK.out _ (upd (upd v 5 _) 11 _) _ _ (upd_on (upd_on rfl q5) q11) rfl rfl hG (Below.refl _ _)
    | 13, _ =>
      have q12 : v 12 = .bool false := hd 12 (by decide)
      refine op_go rfl rfl ?_
      go_simp
      exact hK.out _ (upd v 12 _) _ _ (upd_on rfl q12) rfl rfl hG (Below.refl _ _)
    | 14, _ =>
      have q13 : v 13 = .bool false := hd 13 (by decide)
      refine op_want rfl (by simp [Region.wanted, yielded, q13]) ?_
      go_simp
      exact hK.out _ (upd v 13 _) _ _ (upd_on rfl q13) rfl rfl hG (Below.refl _ _)
    | 15, _ =>
      have q13 : v 13 = .bool false := hd 13 (by decide)
      refine op_want rfl (by simp [Region.wanted, yielded, q13]) ?_
      go_simp
      exact hK.out _ (upd v 13 _) _ _ (upd_on rfl q13) rfl rfl hG (Below.refl _ _)
    | 16, _ =>
      have q13 : v 13 = .bool false := hd 13 (by decide)
      have q14 : v 14 = .agg #[.slice a1 ss.length k1, .slice a2 fs.length k2] := hd 14 (by decide)
      have q15 : v 15 = .agg #[.int .i64 S.status, .int .i64 S.begun, .int .i64 S.last, .slice a3 S.wait.length k3, .slice a4 S.busy.length k4, .slice a5 S.vars.length k5, .int .i64 S.faults] := hd 15 (by decide)
      refine op_want rfl (by simp [Region.wanted, yielded, q13]) ?_
      go_simp
      refine (cI1.out _ hG).mono ?_
      rintro e X' ⟨rfl, hb'⟩
      exact hK.out _ (upd (upd (upd v 13 _) 14 _) 15 _) _ _ (upd_on (upd_on (upd_on rfl q13) q14) q15) rfl rfl (hG.trans (hb'.mono hG.size)) hb'
    | 17, _ =>
      have q13 : v 13 = .bool false := hd 13 (by decide)
      refine op_want rfl (by simp [Region.wanted, yielded, q13]) ?_
      go_simp
      exact hK.out _ (upd v 13 _) _ _ (upd_on rfl q13) rfl rfl hG (Below.refl _ _)
    | 18, _ =>
      have q13 : v 13 = .bool false := hd 13 (by decide)
      refine op_want rfl (by simp [Region.wanted, yielded, q13]) ?_
      go_simp
      exact hK.out _ (upd v 13 _) _ _ (upd_on rfl q13) rfl rfl hG (Below.refl _ _)
    | 19, _ =>
      have q13 : v 13 = .bool false := hd 13 (by decide)
      have q17 : v 17 = .agg #[.slice a1 ss.length k1, .slice a2 fs.length k2] := hd 17 (by decide)
      have q18 : v 18 = .agg #[.int .i64 S.status, .int .i64 S.begun, .int .i64 S.last, .slice a3 S.wait.length k3, .slice a4 S.busy.length k4, .slice a5 S.vars.length k5, .int .i64 S.faults] := hd 18 (by decide)
      refine op_want rfl (by simp [Region.wanted, yielded, q13]) ?_
      go_simp
      refine (cI2.out _ hG).mono ?_
      rintro e X' ⟨rfl, hb'⟩
      exact hK.out _ (upd (upd (upd v 13 _) 17 _) 18 _) _ _ (upd_on (upd_on (upd_on rfl q13) q17) q18) rfl rfl (hG.trans (hb'.mono hG.size)) hb'
    | 20, _ =>
      have q13 : v 13 = .bool false := hd 13 (by decide)
      have q16 : v 16 = .bool RT := hd 16 (by decide)
      have q19 : v 19 = .bool RT := hd 19 (by decide)
      refine op_want rfl (by simp [Region.wanted, yielded, q13]) ?_
      go_simp
      exact hK.out _ (upd (upd (upd v 13 _) 16 _) 19 _) _ _ (upd_on (upd_on (upd_on rfl q13) q16) q19) rfl rfl hG (Below.refl _ _)
    | 21, _ =>
      have q13 : v 13 = .bool false := hd 13 (by decide)
      have q20 : v 20 = .bool false := hd 20 (by decide)
      refine op_go rfl rfl ?_
      go_simp
      exact hK.out _ (upd (upd v 13 _) 20 _) _ _ (upd_on (upd_on rfl q13) q20) rfl rfl hG (Below.refl _ _)
    | 22, _ =>
      have q21 : v 21 = .bool false := hd 21 (by decide)
      refine op_go rfl rfl ?_
      go_simp
      exact hK.out _ (upd v 21 _) _ _ (upd_on rfl q21) rfl rfl hG (Below.refl _ _)
    | 23, _ =>
      have q22 : v 22 = .bool false := hd 22 (by decide)
      refine op_want rfl (by simp [Region.wanted, yielded, q22]) ?_
      go_simp
      exact hK.out _ (upd v 22 _) _ _ (upd_on rfl q22) rfl rfl hG (Below.refl _ _)
    | 24, _ =>
      have q22 : v 22 = .bool false := hd 22 (by decide)
      have q23 : v 23 = .agg #[.slice a1 ss.length k1, .slice a2 fs.length k2] := hd 23 (by decide)
      refine op_want rfl (by simp [Region.wanted, yielded, q22]) ?_
      go_simp
      refine (cI3.out _ hG).mono ?_
      rintro e X' ⟨rfl, hb'⟩
      exact hK.out _ (upd (upd v 22 _) 23 _) _ _ (upd_on (upd_on rfl q22) q23) rfl rfl (hG.trans (hb'.mono hG.size)) hb'
    | 25, _ =>
      have q22 : v 22 = .bool false := hd 22 (by decide)
      refine op_want rfl (by simp [Region.wanted, yielded, q22]) ?_
      go_simp
      exact hK.out _ (upd v 22 _) _ _ (upd_on rfl q22) rfl rfl hG (Below.refl _ _)
    | 26, _ =>
      have q22 : v 22 = .bool false := hd 22 (by decide)
      have q25 : v 25 = .agg #[.slice a1 ss.length k1, .slice a2 fs.length k2] := hd 25 (by decide)
      refine op_want rfl (by simp [Region.wanted, yielded, q22]) ?_
      go_simp
      refine (cI4.out _ hG).mono ?_
      rintro e X' ⟨rfl, hb'⟩
      exact hK.out _ (upd (upd v 22 _) 25 _) _ _ (upd_on (upd_on rfl q22) q25) rfl rfl (hG.trans (hb'.mono hG.size)) hb'
    | 27, _ =>
      have q22 : v 22 = .bool false := hd 22 (by decide)
      have q24 : v 24 = .bool RD := hd 24 (by decide)
      have q26 : v 26 = .bool RD := hd 26 (by decide)
      refine op_want rfl (by simp [Region.wanted, yielded, q22]) ?_
      go_simp
      exact hK.out _ (upd (upd (upd v 22 _) 24 _) 26 _) _ _ (upd_on (upd_on (upd_on rfl q22) q24) q26) rfl rfl hG (Below.refl _ _)
    | 28, _ =>
      have q22 : v 22 = .bool false := hd 22 (by decide)
      have q27 : v 27 = .bool false := hd 27 (by decide)
      refine op_go rfl rfl ?_
      go_simp
      exact hK.out _ (upd (upd v 22 _) 27 _) _ _ (upd_on (upd_on rfl q22) q27) rfl rfl hG (Below.refl _ _)
    | n9 + 29, h9 => exact absurd h9 (by omega)
  case fin =>
    intro v X hG hd
    have q28 : v 28 = .bool false := hd 28 (by decide)
    rw [q28]
    have A7 := hid (A6.out.stay hG)
    have O7 := hid (O6.out.stay hG)
    have B7 := hid (B6.out.trans (hG.mono B6.out.size))
    clear hG hd A6 O6 R6 B6 cI1 cI2 cI3 cI4 cI5 q28
    obtain ⟨⟨d0, d1⟩, ⟨y0, y1, y2, y3, y4, y5, y6⟩, x0, x1, x2, x3, x4, x5⟩ := A7.out.cells
    obtain ⟨t0, t1, t2, t3, t4, t5, t6, t7⟩ := O7.out.cells
    go_upto_if 73 with fail
    generalize hcb : (c == 0) = cb
    go_cut [] from 74 to 153 (fun wx => Below X.heap.size X wx)
    case first =>
      cases cb with
      | true =>
        have hc : c = 0 := by simpa using hcb
        have HX := hid (hlaw.out hc)
        clear hcb hc
        have bnd := hlw
        have sw := hsm.out.w
        have sb := hsm.out.b
        unfold LowS at bnd
        go_upto_block 0 with fail
        go_cut [12] from 90 to 107 (fun s12 wx => s12 = .int .i64 (flN q4 fs : Nat) ∧ Below X.heap.size X wx)
        case first =>
          clear HX hlaw t0 t1 t2 t3 t4 t5 t6 t7
          go_wp2_with fail
          go_loopw [12, 13] (fun cv kv wr => ∃ k : Nat, kv = .int .i64 k ∧ k ≤ fs.length ∧ cv = .int .i64 (flN q4 (fs.take k) : Nat) ∧ Below X.heap.size X wr) (fun _ kv _ => fs.length - (intOf kv).toNat)
          case atStart => exact ⟨0, rfl, Nat.zero_le _, rfl, Below.refl _ _⟩
          case round =>
            obtain ⟨k, rfl, hk, rfl, hbr⟩ := hrel
            have AR := A7.out.stay hbr
            have HBR := hid hbr
            have hcl : flN q4 (fs.take k) ≤ k := Nat.le_trans List.countP_le_length (by rw [List.length_take]; omega)
            have hfl : fs.length ≤ 10 := hle9.out
            obtain ⟨⟨z0, z1⟩, _, _, _, _, _, p4, _⟩ := AR.cells
            by_cases hlt : k < fs.length
            · obtain ⟨gf, of, rfl, hR⟩ := (pr_of_own AR.o2).row (by omega)
              obtain ⟨f0, f1⟩ := hR.2 k hlt
              have hT := hid (flN_take (s := q4) hlt)
              generalize fs[k].fst = s0 at *
              have m0 := cell_regrown f0
              have m1 := cell_regrown z1
              have m2 := cell_regrown p4
              clear hR f1 AR hbr
              generalize hN : flN q4 (fs.take k) = N at *
              clear hN
              by_cases hs : s0 = q4
              · subst hs
                have hT1 := hT.out
                rw [if_pos rfl] at hT1
                clear hT
                have hT := hid hT1
                clear hT1
                have hsb : (s0.toList == s0.toList) = true := by simp
                go_wp2
                refine wp_region_quiet_below mixed (by kernel_rfl) ?_
                repeat (quiet_step (fail))
                refine wpQuiet_nil ?_
                intro _ hw'
                obtain ⟨⟨dq, osq⟩, hw''⟩ := hw'
                subst hw''
                have hbX := hid (HBR.out.trans ((below_regrown wr dq osq).mono HBR.out.size))
                clear m0 m1 m2 f0 z0 z1 p4 HBR
                go_wp2
                go_roundw
                case rel => exact ⟨k + 1, by go_num, by omega, by rw [hT.out]; go_num, hbX.out⟩
                case measure => simp [intOf]; omega
              · have hsb : (s0.toList == q4.toList) = false := str_ne hs
                have hT1 := hT.out
                rw [if_neg hs] at hT1
                clear hT
                have hT := hid hT1
                clear hT1
                go_wp2
                refine wp_region_quiet_below mixed (by kernel_rfl) ?_
                repeat (quiet_step (fail))
                refine wpQuiet_nil ?_
                intro _ hw'
                obtain ⟨⟨dq, osq⟩, hw''⟩ := hw'
                subst hw''
                have hbX := hid (HBR.out.trans ((below_regrown wr dq osq).mono HBR.out.size))
                clear m0 m1 m2 f0 z0 z1 p4 HBR
                go_wp2
                go_roundw
                case rel => exact ⟨k + 1, by go_num, by omega, by rw [hT.out]; go_num, hbX.out⟩
                case measure => simp [intOf]; omega
            · obtain rfl : k = fs.length := by omega
              go_wp2
              go_meet
              case rel => exact ⟨by rw [List.take_length], HBR.out⟩
        case rest =>
          obtain ⟨rfl, hbc⟩ := hcut
          have AC := hid (A7.out.stay hbc)
          have OC := hid (O7.out.stay hbc)
          have HBC := hid hbc
          clear hbc d0 d1 y0 y1 y2 y3 y4 y5 y6 x0 x1 x2 x3 x4 x5 t0 t1 t2 t3 t4 t5 t6 t7
          obtain ⟨⟨d0, d1⟩, ⟨y0, y1, y2, y3, y4, y5, y6⟩, x0, x1, x2, x3, x4, x5⟩ := AC.out.cells
          obtain ⟨t0, t1, t2, t3, t4, t5, t6, t7⟩ := OC.out.cells
          have cF := calls_yes (specStateRight_any a1 a2 b3 b4 b5 k1 k2 j3 j4 j5 ss fs T.status T.begun T.last T.faults T.wait T.busy T.vars wc (pr_of_own AC.out.o2) F1.out N2.out (str_of_own AC.out.o1) (str_of_own OC.out.os.o3) (str_of_own OC.out.os.o4) (pr_of_own OC.out.os.o5) (fit_small (smS_of hsh.out HX.out.2.1).sv) N1.out hlw.max.1 hlw.max.2.1 hlw.max.2.2) ⟨HX.out.1, HX.out.2.1⟩
          go_wp2_with fail
          refine cF.mono ?_
          rintro e WD ⟨rfl, hbd⟩
          have AD := hid (AC.out.stay hbd)
          have OD := hid (OC.out.stay hbd)
          have HBD := hid (HBC.out.trans (hbd.mono HBC.out.size))
          clear hbd AC OC HBC cF d0 d1 y0 y1 y2 y3 y4 y5 y6 x0 x1 x2 x3 x4 x5 t0 t1 t2 t3 t4 t5 t6 t7
          obtain ⟨⟨d0, d1⟩, ⟨y0, y1, y2, y3, y4, y5, y6⟩, x0, x1, x2, x3, x4, x5⟩ := AD.out.cells
          obtain ⟨t0, t1, t2, t3, t4, t5, t6, t7⟩ := OD.out.cells
          obtain ⟨_, _, hqt, hk2, hk3, hk4⟩ := HX.out
          rw [hqt] at t2
          clear hqt HX
          have hfl : flN q4 fs ≤ fs.length := List.countP_le_length
          have hf10 : fs.length ≤ 10 := hle9.out
          by_cases g2 : q3 = 2
          · have hm := hk2 g2
            subst g2
            have hm2 : (((T.wait.length : Int) + (T.busy.length : Int)) != ((S.wait.length : Int) + (S.busy.length : Int))) = false := by simp; omega
            clear hk2 hk3 hk4 hm
            go_wp2
            go_meet
            case rel => exact HBD.out
          · have n2 : (q3 == 2) = false := by simp [g2]
            by_cases g3 : q3 = 3
            · have hm := hk3 g3
              subst g3
              have hm2 : (((T.wait.length : Int) + (T.busy.length : Int)) != ((S.wait.length : Int) + (S.busy.length : Int) - 1 + (flN q4 fs : Int))) = false := by simp; omega
              clear hk2 hk3 hk4 hm
              go_wp2
              go_meet
              case rel => exact HBD.out
            · have n3 : (q3 == 3) = false := by simp [g3]
              by_cases g4 : q3 = 4
              · have hm := hk4 g4
                subst g4
                have hm2 : (((T.wait.length : Int) + (T.busy.length : Int)) != ((S.wait.length : Int) + (S.busy.length : Int))) = false := by simp; omega
                clear hk2 hk3 hk4 hm
                go_wp2
                go_meet
                case rel => exact HBD.out
              · have n4 : (q3 == 4) = false := by simp [g4]
                clear hk2 hk3 hk4
                go_wp2
                go_meet
                case rel => exact HBD.out
      | false =>
        go_wp2
        go_meet
        case rel => exact Below.refl _ _
    case rest =>
      have B8 := hid (B7.out.trans (hcut.mono B7.out.size))
      clear hcut B7 A7 O7 hlaw hlw hsm hsh hle9 F1 F2 N1 N2 N3 N4 N5 F5 he4 hE d0 d1 y0 y1 y2 y3 y4 y5 y6 x0 x1 x2 x3 x4 x5 t0 t1 t2 t3 t4 t5 t6 t7
      go_wp2_with fail
      refine (drawStateOf_any _ n2 wc (H2.out.stay9 B8.out)).mono ?_
      rintro e W9 ⟨u1, u2, vv, ss2, fs2, l, rfl, hl, hD⟩
      obtain ⟨g1, k6, rfl⟩ := ownB_form hD.o1
      obtain ⟨g2, k7, rfl⟩ := ownB_form hD.o2
      obtain ⟨g6, k8, rfl⟩ := ownB_form hD.ol
      have hb10 : Below W9.heap.size W9 (W9.alloc (.cells [.slice g1 ss2.length k6, .slice g2 fs2.length k7].toArray 26)) := (Below.refl _ _).alloc (Nat.le_refl _) _
      have B10 := hid (B8.out.trans ((hD.bl.trans (hb10.mono hD.bl.size)).mono B8.out.size))
      have L10 := hid (LwB.start hD.o1 hD.o2 hD.ol ((HER.out.stay B8.out).stay hD.bl))
      have hsh := hid hD.sh
      have hse := hid hD.se
      have hle := hD.len
      have F1 := hid (show ∀ i, (h : i < ss2.length) → ss2[i].size ≤ maxLen from fun i h => by have := hsh.out.1 _ (List.getElem_mem h); unfold maxLen; omega)
      have F2 := hid (show FitP fs2 from fun i h => by have := hsh.out.2 _ (List.getElem_mem h); unfold maxLen; omega)
      have FE := hid (show ∀ i, (h : i < l.length) → l[i].step.size ≤ maxLen from fun i h => by have := (hse.out _ (List.getElem_mem h)).1; unfold maxLen; omega)
      have N1 := hid (show ss2.length ≤ maxLen by unfold maxLen; omega)
      have N2 := hid (show fs2.length ≤ maxLen by unfold maxLen; omega)
      clear hD hb10 hle B8 H2 HER
      go_upto_region 20 with fail
      generalize W9.alloc (.cells [.slice g1 ss2.length k6, .slice g2 fs2.length k7].toArray 26) = W10 at *
      generalize W9.heap.size = gf at *
      obtain ⟨d0, d1⟩ := L10.out.cells
      have cIm := hid (implStateOf_any g1 g2 g6 k6 k7 k8 ss2 fs2 l W10 (own_dsl L10.out.o1 L10.out.o2) (sl_of_own L10.out.ol) F1.out F2.out FE.out N1.out N2.out e0 e1 e2 e3 e4 L10.out.er)
      have cSp := hid (fun X (M : LwB X gf (.slice g1 ss2.length k6) (.slice g2 fs2.length k7) (.slice g6 l.length k8) ss2 fs2 l e0 e1 e2 e3 e4) => specStateOf_any g1 g2 g6 k6 k7 k8 ss2 fs2 l X (own_dsl M.o1 M.o2) (sl_of_own M.ol) F1.out FE.out N1.out N2.out)
      have hlw : LowS (soS ss2 fs2 l).2 := soS_low
      have hlaw := hid (fun h => soS_zero (ss := ss2) (fs := fs2) (es := l) h)
      generalize hrs : soS ss2 fs2 l = cs at *
      clear hrs
      obtain ⟨c9, T9⟩ := cs
      simp only at hlw hlaw cIm cSp
      go_wp2_with fail
      refine cIm.out.mono ?_
      rintro e W11 ⟨v3, v4, v5, hx, hO, hb11⟩
      obtain ⟨s3, s4, s5, i3, i4, i5, rfl, rfl, rfl⟩ := hO.forms
      replace hx : e = .returned (.agg #[.int .i64 T9.status, .int .i64 T9.begun, .int .i64 T9.last, .slice s3 T9.wait.length i3, .slice s4 T9.busy.length i4, .slice s5 T9.vars.length i5, .int .i64 T9.faults, .int .i64 c9]) := hx
      subst hx
      have O12 := hid (OutB.made (c := c9) hO)
      have hb12 : Below W10.heap.size W10 (W11.alloc (.cells [.int .i64 T9.status, .int .i64 T9.begun, .int .i64 T9.last, .slice s3 T9.wait.length i3, .slice s4 T9.busy.length i4, .slice s5 T9.vars.length i5, .int .i64 T9.faults, .int .i64 c9].toArray 35)) := hb11.trans ((Below.refl _ _).alloc hb11.size _)
      have L12 := hid (L10.out.stay hb12)
      have B12 := hid (B10.out.trans (hb12.mono B10.out.size))
      clear d0 d1 hO hb11 hb12 L10 B10 cIm
      go_upto_region 21 with fail
      generalize (W11.alloc (.cells [.int .i64 T9.status, .int .i64 T9.begun, .int .i64 T9.last, .slice s3 T9.wait.length i3, .slice s4 T9.busy.length i4, .slice s5 T9.vars.length i5, .int .i64 T9.faults, .int .i64 c9].toArray 35)) = W12 at *
      generalize W11.heap.size = gy at *
      have hf1 : ∀ (r3 r4 r5 : Option Addr) (m3 m4 m5 : Nat) (w : World), (Instr.field 35 (.agg #[.int .i64 T9.status, .int .i64 T9.begun, .int .i64 T9.last, .slice r3 T9.wait.length m3, .slice r4 T9.busy.length m4, .slice r5 T9.vars.length m5, .int .i64 T9.faults, .int .i64 c9]) 1).run Tryz.prog w = .ok (.int .i64 c9) w := fun _ _ _ _ _ _ _ => by kernel_rfl
      have hf0 : ∀ (r3 r4 r5 : Option Addr) (m3 m4 m5 : Nat) (w : World), (Instr.field 35 (.agg #[.int .i64 T9.status, .int .i64 T9.begun, .int .i64 T9.last, .slice r3 T9.wait.length m3, .slice r4 T9.busy.length m4, .slice r5 T9.vars.length m5, .int .i64 T9.faults, .int .i64 c9]) 0).run Tryz.prog w = .ok (.agg #[.int .i64 T9.status, .int .i64 T9.begun, .int .i64 T9.last, .slice r3 T9.wait.length m3, .slice r4 T9.busy.length m4, .slice r5 T9.vars.length m5, .int .i64 T9.faults]) w := fun _ _ _ _ _ _ _ => by kernel_rfl
      cases hcb9 : (c9 != 0) with
      | true =>
        refine wp_region_ok mixed 22 [[],[0],[],[],[2,3],[2,3,4],[0,1,2,3,4,5],[0,1,2,3,4,5,6],[0,1,2,3,4,5,6,7],[0,1,2,3,4,5,6,7,8],[0,1,2,3,4,5,6,7],[0,1,2,3,4,5,6,7],[0,1,2,3,4,5,6,7,10,11],[0,1,2,3,4,5,6,7,10,11,12],[0,1,2,3,4,5,6,7,8,9,10,11,12,13],[0,1,2,3,4,5,6,7,8,9,10,11,12,13,14],[0,1,2,3,4,5,6,7,8,9,10,11,12,13,14,15],[0,1,2,3,4,5,6,7,8,9,10,11,12,13,14,15,16],[0,1,2,3,4,5,6,7,8,9,10,11,12,13,14,15,16,17],[0,1,2,3,4,5,6,7,8,9,10,11,12,13,14,15,16,17,18],[0,1,2,3,4,5,6,7,8,9,10,11,12,13,14,15,16,17,18,19],[0,1,2,3,4,5,6,7,8,9,10,11,12,13,14,15,16,17,18,19,20]] (fun y => { tmps := #[.slice p1 n1 c1, .slice p2 n2 c2, undef, undef, u4, .pointer (some ⟨gd, 0, none⟩), .pointer (some ⟨gd + 1, 0, none⟩), .pointer (some ⟨gd + 1 + 1, 0, none⟩), .pointer (some ⟨g8, 0, none⟩), .pointer (some ⟨g9, 0, none⟩), u10, u11, u12, u13, .pointer (some ⟨gf, 0, none⟩), .slice g6 l.length k8, .pointer (some ⟨gy, 0, none⟩), undef, undef, undef, .slice p1 n1 c1, .int .i64 (n1 : Int), .bool (decide (1048576 < (n1 : Int))), .bool (decide (1048576 < (n1 : Int))), .slice p2 n2 c2, .int .i64 (n2 : Int), .bool (decide (1048576 < (n2 : Int))), .bool (decide (1048576 < (n1 : Int)) || decide (1048576 < (n2 : Int))), .tuple #[.agg #[.slice a1 ss.length k1, .slice a2 fs.length k2], .agg #[.int .i64 S.status, .int .i64 S.begun, .int .i64 S.last, .slice a3 S.wait.length k3, .slice a4 S.busy.length k4, .slice a5 S.vars.length k5, .int .i64 S.faults], .agg #[.int .i64 q0, .int .i64 q1, .int .i64 q2, .int .i64 q3, .string q4, .string q5]], .slice p1 n1 c1, .tuple #[.agg #[.slice a1 ss.length k1, .slice a2 fs.length k2], .agg #[.int .i64 S.status, .int .i64 S.begun, .int .i64 S.last, .slice a3 S.wait.length k3, .slice a4 S.busy.length k4, .slice a5 S.vars.length k5, .int .i64 S.faults], .agg #[.int .i64 q0, .int .i64 q1, .int .i64 q2, .int .i64 q3, .string q4, .string q5]], .agg #[.slice a1 ss.length k1, .slice a2 fs.length k2], .agg #[.int .i64 S.status, .int .i64 S.begun, .int .i64 S.last, .slice a3 S.wait.length k3, .slice a4 S.busy.length k4, .slice a5 S.vars.length k5, .int .i64 S.faults], .agg #[.int .i64 q0, .int .i64 q1, .int .i64 q2, .int .i64 q3, .string q4, .string q5], .agg #[.slice a1 ss.length k1, .slice a2 fs.length k2], .agg #[.int .i64 S.status, .int .i64 S.begun, .int .i64 S.last, .slice a3 S.wait.length k3, .slice a4 S.busy.length k4, .slice a5 S.vars.length k5, .int .i64 S.faults], .agg #[.int .i64 q0, .int .i64 q1, .int .i64 q2, .int .i64 q3, .string q4, .string q5], .agg #[.int .i64 T.status, .int .i64 T.begun, .int .i64 T.last, .slice b3 T.wait.length j3, .slice b4 T.busy.length j4, .slice b5 T.vars.length j5, .int .i64 T.faults, .int .i64 c], .agg #[.slice a1 ss.length k1, .slice a2 fs.length k2], .agg #[.int .i64 S.status, .int .i64 S.begun, .int .i64 S.last, .slice a3 S.wait.length k3, .slice a4 S.busy.length k4, .slice a5 S.vars.length k5, .int .i64 S.faults], .agg #[.int .i64 q0, .int .i64 q1, .int .i64 q2, .int .i64 q3, .string q4, .string q5], .agg #[.int .i64 T.status, .int .i64 T.begun, .int .i64 T.last, .slice d3 T.wait.length l3, .slice d4 T.busy.length l4, .slice d5 T.vars.length l5, .int .i64 T.faults, .int .i64 c], v 0, v 1, v 2, v 3, v 4, v 5, v 6, v 7, v 8, v 9, v 10, v 11, v 12, v 13, v 14, v 15, v 16, v 17, v 18, v 19, v 20, v 21, v 22, v 23, v 24, v 25, v 26, v 27, .bool false, .pointer (some ⟨g8, 7, none⟩), .int .i64 c, .bool cb, u74, u75, u76, u77, u78, u79, u80, u81, u82, u83, u84, u85, u86, u87, u88, u89, u90, u91, u92, u93, u94, u95, u96, u97, u98, u99, u100, u101, u102, u103, u104, u105, u106, u107, u108, u109, u110, u111, u112, u113, u114, u115, u116, u117, u118, u119, u120, u121, u122, u123, u124, u125, u126, u127, u128, u129, u130, u131, u132, u133, u134, u135, u136, u137, u138, u139, u140, u141, u142, u143, u144, u145, u146, u147, u148, u149, u150, u151, u152, u153, .tuple #[.agg #[.slice g1 ss2.length k6, .slice g2 fs2.length k7], .slice g6 l.length k8], .slice p2 n2 c2, .tuple #[.agg #[.slice g1 ss2.length k6, .slice g2 fs2.length k7], .slice g6 l.length k8], .agg #[.slice g1 ss2.length k6, .slice g2 fs2.length k7], .slice g6 l.length k8, .agg #[.slice g1 ss2.length k6, .slice g2 fs2.length k7], .slice g6 l.length k8, .agg #[.int .i64 T9.status, .int .i64 T9.begun, .int .i64 T9.last, .slice s3 T9.wait.length i3, .slice s4 T9.busy.length i4, .slice s5 T9.vars.length i5, .int .i64 T9.faults, .int .i64 c9], y 0, y 1, y 2, y 3, y 4, y 5, y 6, y 7, y 8, y 9, y 10, y 11, y 12, y 13, y 14, y 15, y 16, y 17, y 18, y 19, y 20, y 21, undef, undef, undef, undef, undef, undef, undef, undef, undef, undef, undef, undef, undef, undef, undef, undef, undef, undef, undef, undef, undef, undef, undef, undef, undef, undef, undef, undef, undef, undef, undef, undef, undef, undef, undef, undef, undef, undef, undef], defers := [] }) (fun i9 => match i9 with | _ => undef) (fun i9 x X => match i9 with
          | 0 => x = .pointer (some ⟨gy, 7, none⟩)
          | 1 => x = .int .i64 c9
          | 2 => x = .agg #[.slice g1 ss2.length k6, .slice g2 fs2.length k7]
          | 3 => x = .slice g6 l.length k8
          | 4 => ∃ (r3 r4 r5 : Option Addr) (m3 m4 m5 : Nat), x = .agg #[.int .i64 T9.status, .int .i64 T9.begun, .int .i64 T9.last, .slice r3 T9.wait.length m3, .slice r4 T9.busy.length m4, .slice r5 T9.vars.length m5, .int .i64 T9.faults, .int .i64 c9] ∧ StOwn X 0 (.slice r3 T9.wait.length m3) (.slice r4 T9.busy.length m4) (.slice r5 T9.vars.length m5) T9
          | 5 => x = .int .i64 c9
          | 6 => x = .bool false
          | 7 => x = .bool false
          | 8 => x = .pointer (some ⟨gy, 0, none⟩)
          | 9 => x = .agg #[.int .i64 T9.status, .int .i64 T9.begun, .int .i64 T9.last, .slice s3 T9.wait.length i3, .slice s4 T9.busy.length i4, .slice s5 T9.vars.length i5, .int .i64 T9.faults]
          | 10 => x = .agg #[.slice g1 ss2.length k6, .slice g2 fs2.length k7]
          | 11 => x = .slice g6 l.length k8
          | 12 => ∃ (r3 r4 r5 : Option Addr) (m3 m4 m5 : Nat), x = .agg #[.int .i64 T9.status, .int .i64 T9.begun, .int .i64 T9.last, .slice r3 T9.wait.length m3, .slice r4 T9.busy.length m4, .slice r5 T9.vars.length m5, .int .i64 T9.faults, .int .i64 c9] ∧ StOwn X 0 (.slice r3 T9.wait.length m3) (.slice r4 T9.busy.length m4) (.slice r5 T9.vars.length m5) T9
          | 13 => ∃ (r3 r4 r5 : Option Addr) (m3 m4 m5 : Nat), x = .agg #[.int .i64 T9.status, .int .i64 T9.begun, .int .i64 T9.last, .slice r3 T9.wait.length m3, .slice r4 T9.busy.length m4, .slice r5 T9.vars.length m5, .int .i64 T9.faults] ∧ StOwn X 0 (.slice r3 T9.wait.length m3) (.slice r4 T9.busy.length m4) (.slice r5 T9.vars.length m5) T9
          | 14 => x = .bool true
          | 15 => x = .bool false
          | 16 => x = .bool false
          | 17 => x = .bool false
          | 18 => x = .pointer (some ⟨gy, 7, none⟩)
          | 19 => x = .int .i64 c9
          | 20 => x = .bool true
          | 21 => x = .bool true
          | _ => True) (fun X => Below W12.heap.size W12 X) (fun X X' => Below X.heap.size X X') (by kernel_rfl) rfl ((Below.refl _ _).drew) ?mono21t ?step21t ?fin21t
        case mono21t =>
          intro i9 x X X' hi9 hG hS h
          match i9, hi9 with
          | 0, _ | 1, _ | 2, _ | 3, _ | 5, _ | 6, _ | 7, _ | 8, _ | 9, _ | 10, _ | 11, _ | 14, _ | 15, _ | 16, _ | 17, _ | 18, _ | 19, _ | 20, _ | 21, _ => exact h
          | 4, _ => obtain ⟨r3, r4, r5, m3, m4, m5, e, hO⟩ := h; exact ⟨r3, r4, r5, m3, m4, m5, e, hO.stay hS⟩
          | 12, _ => obtain ⟨r3, r4, r5, m3, m4, m5, e, hO⟩ := h; exact ⟨r3, r4, r5, m3, m4, m5, e, hO.stay hS⟩
          | 13, _ => obtain ⟨r3, r4, r5, m3, m4, m5, e, hO⟩ := h; exact ⟨r3, r4, r5, m3, m4, m5, e, hO.stay hS⟩
          | n9 + 22, h9 => exact absurd h9 (by omega)
        case step21t =>
          intro i9 y X hi9 hG hd hu K hK
          have HU := hid hu
          clear hu
          have L9 := L12.out.stay hG
          obtain ⟨d0, d1⟩ := L9.cells
          obtain ⟨t0, t1, t2, t3, t4, t5, t6, t7⟩ := (O12.out.stay hG).cells
          match i9, hi9 with
          | 0, _ =>
            refine op_go rfl rfl ?_
            go_simp
            exact hK.out _ y _ _ rfl rfl rfl hG (Below.refl _ _)
          | 1, _ =>
            have q0 : y 0 = .pointer (some ⟨gy, 7, none⟩) := hd 0 (by decide)
            refine op_go rfl rfl ?_
            go_simp
            exact hK.out _ (upd y 0 _) _ _ (upd_on rfl q0) rfl rfl hG (Below.refl _ _)
          | 2, _ =>
            refine op_go rfl rfl ?_
            go_simp
            exact hK.out _ y _ _ rfl rfl rfl hG (Below.refl _ _)
          | 3, _ =>
            refine op_go rfl rfl ?_
            go_simp
            exact hK.out _ y _ _ rfl rfl rfl hG (Below.refl _ _)
          | 4, _ =>
            have q2 : y 2 = .agg #[.slice g1 ss2.length k6, .slice g2 fs2.length k7] := hd 2 (by decide)
            have q3 : y 3 = .slice g6 l.length k8 := hd 3 (by decide)
            refine op_go rfl rfl ?_
            go_simp
            refine (cSp.out _ L9).mono ?_
            rintro e X' ⟨v3, v4, v5, hx, hO, hb'⟩
            obtain ⟨r3, r4, r5, m3, m4, m5, rfl, rfl, rfl⟩ := hO.forms
            replace hx : e = .returned (.agg #[.int .i64 T9.status, .int .i64 T9.begun, .int .i64 T9.last, .slice r3 T9.wait.length m3, .slice r4 T9.busy.length m4, .slice r5 T9.vars.length m5, .int .i64 T9.faults, .int .i64 c9]) := hx
            subst hx
            exact hK.out _ (upd (upd y 2 _) 3 _) _ _ (upd_on (upd_on rfl q2) q3) rfl ⟨r3, r4, r5, m3, m4, m5, rfl, hO.le (Nat.zero_le _)⟩ (hG.trans (hb'.mono hG.size)) hb'
          | 5, _ =>
            obtain ⟨r3, r4, r5, m3, m4, m5, qo166, ho166⟩ : ∃ (r3 r4 r5 : Option Addr) (m3 m4 m5 : Nat), y 4 = .agg #[.int .i64 T9.status, .int .i64 T9.begun, .int .i64 T9.last, .slice r3 T9.wait.length m3, .slice r4 T9.busy.length m4, .slice r5 T9.vars.length m5, .int .i64 T9.faults, .int .i64 c9] ∧ StOwn X 0 (.slice r3 T9.wait.length m3) (.slice r4 T9.busy.length m4) (.slice r5 T9.vars.length m5) T9 := hd 4 (by decide)
            have hfr := hf1 r3 r4 r5 m3 m4 m5
            clear hf0 hf1
            refine op_go rfl rfl ?_
            go_simp
            exact hK.out _ (upd y 4 _) _ _ (upd_on rfl qo166) rfl rfl hG (Below.refl _ _)
          | 6, _ =>
            have q1 : y 1 = .int .i64 c9 := hd 1 (by decide)
            have q5 : y 5 = .int .i64 c9 := hd 5 (by decide)
            refine op_go rfl rfl ?_
            go_simp
            exact hK.out _ (upd (upd y 1 _) 5 _) _ _ (upd_on (upd_on rfl q1) q5) rfl rfl hG (Below.refl _ _)
          | 7, _ =>
            have q6 : y 6 = .bool false := hd 6 (by decide)
            refine op_go rfl rfl ?_
            go_simp
            exact hK.out _ (upd y 6 _) _ _ (upd_on rfl q6) rfl rfl hG (Below.refl _ _)
          | 8, _ =>
            have q7 : y 7 = .bool false := hd 7 (by decide)
            refine op_want rfl (by simp [Region.wanted, yielded, q7]) ?_
            go_simp
            exact hK.out _ (upd y 7 _) _ _ (upd_on rfl q7) rfl rfl hG (Below.refl _ _)
          | 9, _ =>
            have q7 : y 7 = .bool false := hd 7 (by decide)
            have q8 : y 8 = .pointer (some ⟨gy, 0, none⟩) := hd 8 (by decide)
            refine op_want rfl (by simp [Region.wanted, yielded, q7]) ?_
            go_simp
            exact hK.out _ (upd (upd y 7 _) 8 _) _ _ (upd_on (upd_on rfl q7) q8) rfl rfl hG (Below.refl _ _)
          | 10, _ =>
            have q7 : y 7 = .bool false := hd 7 (by decide)
            refine op_want rfl (by simp [Region.wanted, yielded, q7]) ?_
            go_simp
            exact hK.out _ (upd y 7 _) _ _ (upd_on rfl q7) rfl rfl hG (Below.refl _ _)
          | 11, _ =>
            have q7 : y 7 = .bool false := hd 7 (by decide)
            refine op_want rfl (by simp [Region.wanted, yielded, q7]) ?_
            go_simp
            exact hK.out _ (upd y 7 _) _ _ (upd_on rfl q7) rfl rfl hG (Below.refl _ _)
          | 12, _ =>
            have q7 : y 7 = .bool false := hd 7 (by decide)
            have q10 : y 10 = .agg #[.slice g1 ss2.length k6, .slice g2 fs2.length k7] := hd 10 (by decide)
            have q11 : y 11 = .slice g6 l.length k8 := hd 11 (by decide)
            refine op_want rfl (by simp [Region.wanted, yielded, q7]) ?_
            go_simp
            refine (cSp.out _ L9).mono ?_
            rintro e X' ⟨v3, v4, v5, hx, hO, hb'⟩
            obtain ⟨r3, r4, r5, m3, m4, m5, rfl, rfl, rfl⟩ := hO.forms
            replace hx : e = .returned (.agg #[.int .i64 T9.status, .int .i64 T9.begun, .int .i64 T9.last, .slice r3 T9.wait.length m3, .slice r4 T9.busy.length m4, .slice r5 T9.vars.length m5, .int .i64 T9.faults, .int .i64 c9]) := hx
            subst hx
            exact hK.out _ (upd (upd (upd y 7 _) 10 _) 11 _) _ _ (upd_on (upd_on (upd_on rfl q7) q10) q11) rfl ⟨r3, r4, r5, m3, m4, m5, rfl, hO.le (Nat.zero_le _)⟩ (hG.trans (hb'.mono hG.size)) hb'
          | 13, _ =>
            have q7 : y 7 = .bool false := hd 7 (by decide)
            obtain ⟨r3, r4, r5, m3, m4, m5, qo174, ho174⟩ : ∃ (r3 r4 r5 : Option Addr) (m3 m4 m5 : Nat), y 12 = .agg #[.int .i64 T9.status, .int .i64 T9.begun, .int .i64 T9.last, .slice r3 T9.wait.length m3, .slice r4 T9.busy.length m4, .slice r5 T9.vars.length m5, .int .i64 T9.faults, .int .i64 c9] ∧ StOwn X 0 (.slice r3 T9.wait.length m3) (.slice r4 T9.busy.length m4) (.slice r5 T9.vars.length m5) T9 := hd 12 (by decide)
            have hfr := hf0 r3 r4 r5 m3 m4 m5
            clear hf0 hf1
            refine op_want rfl (by simp [Region.wanted, yielded, q7]) ?_
            go_simp
            exact hK.out _ (upd (upd y 7 _) 12 _) _ _ (upd_on (upd_on rfl q7) qo174) rfl ⟨r3, r4, r5, m3, m4, m5, rfl, ho174⟩ hG (Below.refl _ _)
          | 14, _ =>
            have q7 : y 7 = .bool false := hd 7 (by decide)
            have q9 : y 9 = .agg #[.int .i64 T9.status, .int .i64 T9.begun, .int .i64 T9.last, .slice s3 T9.wait.length i3, .slice s4 T9.busy.length i4, .slice s5 T9.vars.length i5, .int .i64 T9.faults] := hd 9 (by decide)
            obtain ⟨r3, r4, r5, m3, m4, m5, qo175, ho175⟩ : ∃ (r3 r4 r5 : Option Addr) (m3 m4 m5 : Nat), y 13 = .agg #[.int .i64 T9.status, .int .i64 T9.begun, .int .i64 T9.last, .slice r3 T9.wait.length m3, .slice r4 T9.busy.length m4, .slice r5 T9.vars.length m5, .int .i64 T9.faults] ∧ StOwn X 0 (.slice r3 T9.wait.length m3) (.slice r4 T9.busy.length m4) (.slice r5 T9.vars.length m5) T9 := hd 13 (by decide)
            refine op_want rfl (by simp [Region.wanted, yielded, q7]) ?_
            go_simp
            refine (lwState_any s3 s4 s5 r3 r4 r5 i3 i4 i5 m3 m4 m5 T9 X (own_ssl (O12.out.stay hG).os) (own_ssl ho175) hlw.max.1 hlw.max.2.1 hlw.max.2.2).mono ?_
            rintro e X' ⟨rfl, hb'⟩
            exact hK.out _ (upd (upd (upd y 7 _) 9 _) 13 _) _ _ (upd_on (upd_on (upd_on rfl q7) q9) qo175) rfl rfl (hG.trans (hb'.mono hG.size)) hb'
          | 15, _ =>
            have q7 : y 7 = .bool false := hd 7 (by decide)
            have q14 : y 14 = .bool true := hd 14 (by decide)
            refine op_want rfl (by simp [Region.wanted, yielded, q7]) ?_
            go_simp
            exact hK.out _ (upd (upd y 7 _) 14 _) _ _ (upd_on (upd_on rfl q7) q14) rfl rfl hG (Below.refl _ _)
          | 16, _ =>
            have q7 : y 7 = .bool false := hd 7 (by decide)
            have q15 : y 15 = .bool false := hd 15 (by decide)
            refine op_go rfl rfl ?_
            go_simp
            exact hK.out _ (upd (upd y 7 _) 15 _) _ _ (upd_on (upd_on rfl q7) q15) rfl rfl hG (Below.refl _ _)
          | 17, _ =>
            have q16 : y 16 = .bool false := hd 16 (by decide)
            refine op_go rfl rfl ?_
            go_simp
            exact hK.out _ (upd y 16 _) _ _ (upd_on rfl q16) rfl rfl hG (Below.refl _ _)
          | 18, _ =>
            have q17 : y 17 = .bool false := hd 17 (by decide)
            refine op_want rfl (by simp [Region.wanted, yielded, q17]) ?_
            go_simp
            exact hK.out _ (upd y 17 _) _ _ (upd_on rfl q17) rfl rfl hG (Below.refl _ _)
          | 19, _ =>
            have q17 : y 17 = .bool false := hd 17 (by decide)
            have q18 : y 18 = .pointer (some ⟨gy, 7, none⟩) := hd 18 (by decide)
            refine op_want rfl (by simp [Region.wanted, yielded, q17]) ?_
            go_simp
            exact hK.out _ (upd (upd y 17 _) 18 _) _ _ (upd_on (upd_on rfl q17) q18) rfl rfl hG (Below.refl _ _)
          | 20, _ =>
            have q17 : y 17 = .bool false := hd 17 (by decide)
            have q19 : y 19 = .int .i64 c9 := hd 19 (by decide)
            refine op_want rfl (by simp [Region.wanted, yielded, q17]) ?_
            go_simp
            exact hK.out _ (upd (upd y 17 _) 19 _) _ _ (upd_on (upd_on rfl q17) q19) rfl rfl hG (Below.refl _ _)
          | 21, _ =>
            have q17 : y 17 = .bool false := hd 17 (by decide)
            have q20 : y 20 = .bool true := hd 20 (by decide)
            refine op_go rfl rfl ?_
            go_simp
            exact hK.out _ (upd (upd y 17 _) 20 _) _ _ (upd_on (upd_on rfl q17) q20) rfl rfl hG (Below.refl _ _)
          | n9 + 22, h9 => exact absurd h9 (by omega)
        case fin21t =>
          intro y X hG hd
          have q21 : y 21 = .bool true := hd 21 (by decide)
          rw [q21]
          have L13 := hid (L12.out.stay hG)
          have O13 := hid (O12.out.stay hG)
          have B13 := hid (B12.out.trans (hG.mono B12.out.size))
          clear hG hd q21
          clear L12 O12 B12 hlaw
          go_upto_region 22 with fail
          generalize X = WX at *
          have L12 := L13
          have O12 := O13
          clear L13 O13
          refine wp_region_ok mixed 17 [[],[0],[],[],[2,3],[2,3,4],[0,1,2,3,4,5],[0,1,2,3,4,5,6],[0,1,2,3,4,5,6,7],[0,1,2,3,4,5,6,7,8],[0,1,2,3,4,5,6,7],[0,1,2,3,4,5,6,7],[0,1,2,3,4,5,6,7,10,11],[0,1,2,3,4,5,6,7,10,11,12],[0,1,2,3,4,5,6,7,8,9,10,11,12,13],[0,1,2,3,4,5,6,7,8,9,10,11,12,13,14],[0,1,2,3,4,5,6,7,8,9,10,11,12,13,14,15]] (fun z => { tmps := #[.slice p1 n1 c1, .slice p2 n2 c2, undef, undef, z 16, .pointer (some ⟨gd, 0, none⟩), .pointer (some ⟨gd + 1, 0, none⟩), .pointer (some ⟨gd + 1 + 1, 0, none⟩), .pointer (some ⟨g8, 0, none⟩), .pointer (some ⟨g9, 0, none⟩), u10, u11, u12, u13, .pointer (some ⟨gf, 0, none⟩), .slice g6 l.length k8, .pointer (some ⟨gy, 0, none⟩), undef, undef, undef, .slice p1 n1 c1, .int .i64 (n1 : Int), .bool (decide (1048576 < (n1 : Int))), .bool (decide (1048576 < (n1 : Int))), .slice p2 n2 c2, .int .i64 (n2 : Int), .bool (decide (1048576 < (n2 : Int))), .bool (decide (1048576 < (n1 : Int)) || decide (1048576 < (n2 : Int))), .tuple #[.agg #[.slice a1 ss.length k1, .slice a2 fs.length k2], .agg #[.int .i64 S.status, .int .i64 S.begun, .int .i64 S.last, .slice a3 S.wait.length k3, .slice a4 S.busy.length k4, .slice a5 S.vars.length k5, .int .i64 S.faults], .agg #[.int .i64 q0, .int .i64 q1, .int .i64 q2, .int .i64 q3, .string q4, .string q5]], .slice p1 n1 c1, .tuple #[.agg #[.slice a1 ss.length k1, .slice a2 fs.length k2], .agg #[.int .i64 S.status, .int .i64 S.begun, .int .i64 S.last, .slice a3 S.wait.length k3, .slice a4 S.busy.length k4, .slice a5 S.vars.length k5, .int .i64 S.faults], .agg #[.int .i64 q0, .int .i64 q1, .int .i64 q2, .int .i64 q3, .string q4, .string q5]], .agg #[.slice a1 ss.length k1, .slice a2 fs.length k2], .agg #[.int .i64 S.status, .int .i64 S.begun, .int .i64 S.last, .slice a3 S.wait.length k3, .slice a4 S.busy.length k4, .slice a5 S.vars.length k5, .int .i64 S.faults], .agg #[.int .i64 q0, .int .i64 q1, .int .i64 q2, .int .i64 q3, .string q4, .string q5], .agg #[.slice a1 ss.length k1, .slice a2 fs.length k2], .agg #[.int .i64 S.status, .int .i64 S.begun, .int .i64 S.last, .slice a3 S.wait.length k3, .slice a4 S.busy.length k4, .slice a5 S.vars.length k5, .int .i64 S.faults], .agg #[.int .i64 q0, .int .i64 q1, .int .i64 q2, .int .i64 q3, .string q4, .string q5], .agg #[.int .i64 T.status, .int .i64 T.begun, .int .i64 T.last, .slice b3 T.wait.length j3, .slice b4 T.busy.length j4, .slice b5 T.vars.length j5, .int .i64 T.faults, .int .i64 c], .agg #[.slice a1 ss.length k1, .slice a2 fs.length k2], .agg #[.int .i64 S.status, .int .i64 S.begun, .int .i64 S.last, .slice a3 S.wait.length k3, .slice a4 S.busy.length k4, .slice a5 S.vars.length k5, .int .i64 S.faults], .agg #[.int .i64 q0, .int .i64 q1, .int .i64 q2, .int .i64 q3, .string q4, .string q5], .agg #[.int .i64 T.status, .int .i64 T.begun, .int .i64 T.last, .slice d3 T.wait.length l3, .slice d4 T.busy.length l4, .slice d5 T.vars.length l5, .int .i64 T.faults, .int .i64 c], v 0, v 1, v 2, v 3, v 4, v 5, v 6, v 7, v 8, v 9, v 10, v 11, v 12, v 13, v 14, v 15, v 16, v 17, v 18, v 19, v 20, v 21, v 22, v 23, v 24, v 25, v 26, v 27, .bool false, .pointer (some ⟨g8, 7, none⟩), .int .i64 c, .bool cb, u74, u75, u76, u77, u78, u79, u80, u81, u82, u83, u84, u85, u86, u87, u88, u89, u90, u91, u92, u93, u94, u95, u96, u97, u98, u99, u100, u101, u102, u103, u104, u105, u106, u107, u108, u109, u110, u111, u112, u113, u114, u115, u116, u117, u118, u119, u120, u121, u122, u123, u124, u125, u126, u127, u128, u129, u130, u131, u132, u133, u134, u135, u136, u137, u138, u139, u140, u141, u142, u143, u144, u145, u146, u147, u148, u149, u150, u151, u152, u153, .tuple #[.agg #[.slice g1 ss2.length k6, .slice g2 fs2.length k7], .slice g6 l.length k8], .slice p2 n2 c2, .tuple #[.agg #[.slice g1 ss2.length k6, .slice g2 fs2.length k7], .slice g6 l.length k8], .agg #[.slice g1 ss2.length k6, .slice g2 fs2.length k7], .slice g6 l.length k8, .agg #[.slice g1 ss2.length k6, .slice g2 fs2.length k7], .slice g6 l.length k8, .agg #[.int .i64 T9.status, .int .i64 T9.begun, .int .i64 T9.last, .slice s3 T9.wait.length i3, .slice s4 T9.busy.length i4, .slice s5 T9.vars.length i5, .int .i64 T9.faults, .int .i64 c9], y 0, y 1, y 2, y 3, y 4, y 5, y 6, y 7, y 8, y 9, y 10, y 11, y 12, y 13, y 14, y 15, y 16, y 17, y 18, y 19, y 20, .bool true, z 0, z 1, z 2, z 3, z 4, z 5, z 6, z 7, z 8, z 9, z 10, z 11, z 12, z 13, z 14, z 15, undef, undef, undef, undef, undef, undef, undef, undef, undef, undef, undef, undef, undef, undef, undef, undef, undef, undef, undef, undef, undef, undef, undef], defers := [] }) (fun i9 => match i9 with | 16 => u4 | _ => undef) (fun i9 x X => match i9 with
            | 0 => x = .pointer (some ⟨gy, 7, none⟩)
            | 1 => x = .int .i64 c9
            | 2 => x = .agg #[.slice g1 ss2.length k6, .slice g2 fs2.length k7]
            | 3 => x = .slice g6 l.length k8
            | 4 => ∃ (r3 r4 r5 : Option Addr) (m3 m4 m5 : Nat), x = .agg #[.int .i64 T9.status, .int .i64 T9.begun, .int .i64 T9.last, .slice r3 T9.wait.length m3, .slice r4 T9.busy.length m4, .slice r5 T9.vars.length m5, .int .i64 T9.faults, .int .i64 c9] ∧ StOwn X 0 (.slice r3 T9.wait.length m3) (.slice r4 T9.busy.length m4) (.slice r5 T9.vars.length m5) T9
            | 5 => x = .int .i64 c9
            | 6 => x = .bool true
            | 7 => x = .bool true
            | 8 => x = .pointer (some ⟨gy, 0, none⟩)
            | 9 => x = .agg #[.int .i64 T9.status, .int .i64 T9.begun, .int .i64 T9.last, .slice s3 T9.wait.length i3, .slice s4 T9.busy.length i4, .slice s5 T9.vars.length i5, .int .i64 T9.faults]
            | 10 => x = .agg #[.slice g1 ss2.length k6, .slice g2 fs2.length k7]
            | 11 => x = .slice g6 l.length k8
            | 12 => ∃ (r3 r4 r5 : Option Addr) (m3 m4 m5 : Nat), x = .agg #[.int .i64 T9.status, .int .i64 T9.begun, .int .i64 T9.last, .slice r3 T9.wait.length m3, .slice r4 T9.busy.length m4, .slice r5 T9.vars.length m5, .int .i64 T9.faults, .int .i64 c9] ∧ StOwn X 0 (.slice r3 T9.wait.length m3) (.slice r4 T9.busy.length m4) (.slice r5 T9.vars.length m5) T9
            | 13 => ∃ (r3 r4 r5 : Option Addr) (m3 m4 m5 : Nat), x = .agg #[.int .i64 T9.status, .int .i64 T9.begun, .int .i64 T9.last, .slice r3 T9.wait.length m3, .slice r4 T9.busy.length m4, .slice r5 T9.vars.length m5, .int .i64 T9.faults] ∧ StOwn X 0 (.slice r3 T9.wait.length m3) (.slice r4 T9.busy.length m4) (.slice r5 T9.vars.length m5) T9
            | 14 => x = .bool true
            | 15 => x = .bool true
            | 16 => x = .bool true
            | _ => True) (fun X => Below WX.heap.size WX X) (fun X X' => Below X.heap.size X X') (by kernel_rfl) rfl ((Below.refl _ _).drew) ?mono22 ?step22 ?fin22
          case mono22 =>
            intro i9 x X X' hi9 hG hS h
            match i9, hi9 with
            | 0, _ | 1, _ | 2, _ | 3, _ | 5, _ | 6, _ | 7, _ | 8, _ | 9, _ | 10, _ | 11, _ | 14, _ | 15, _ | 16, _ => exact h
            | 4, _ => obtain ⟨r3, r4, r5, m3, m4, m5, e, hO⟩ := h; exact ⟨r3, r4, r5, m3, m4, m5, e, hO.stay hS⟩
            | 12, _ => obtain ⟨r3, r4, r5, m3, m4, m5, e, hO⟩ := h; exact ⟨r3, r4, r5, m3, m4, m5, e, hO.stay hS⟩
            | 13, _ => obtain ⟨r3, r4, r5, m3, m4, m5, e, hO⟩ := h; exact ⟨r3, r4, r5, m3, m4, m5, e, hO.stay hS⟩
            | n9 + 17, h9 => exact absurd h9 (by omega)
          case step22 =>
            intro i9 z X hi9 hG hd hu K hK
            have HU := hid hu
            clear hu
            have L9 := L12.out.stay hG
            obtain ⟨d0, d1⟩ := L9.cells
            obtain ⟨t0, t1, t2, t3, t4, t5, t6, t7⟩ := (O12.out.stay hG).cells
            match i9, hi9 with
            | 0, _ =>
              refine op_go rfl rfl ?_
              go_simp
              exact hK.out _ z _ _ rfl rfl rfl hG (Below.refl _ _)
            | 1, _ =>
              have q0 : z 0 = .pointer (some ⟨gy, 7, none⟩) := hd 0 (by decide)
              refine op_go rfl rfl ?_
              go_simp
              exact hK.out _ (upd z 0 _) _ _ (upd_on rfl q0) rfl rfl hG (Below.refl _ _)
            | 2, _ =>
              refine op_go rfl rfl ?_
              go_simp
              exact hK.out _ z _ _ rfl rfl rfl hG (Below.refl _ _)
            | 3, _ =>
              refine op_go rfl rfl ?_
              go_simp
              exact hK.out _ z _ _ rfl rfl rfl hG (Below.refl _ _)
            | 4, _ =>
              have q2 : z 2 = .agg #[.slice g1 ss2.length k6, .slice g2 fs2.length k7] := hd 2 (by decide)
              have q3 : z 3 = .slice g6 l.length k8 := hd 3 (by decide)
              refine op_go rfl rfl ?_
              go_simp
              refine (cSp.out _ L9).mono ?_
              rintro e X' ⟨v3, v4, v5, hx, hO, hb'⟩
              obtain ⟨r3, r4, r5, m3, m4, m5, rfl, rfl, rfl⟩ := hO.forms
              replace hx : e = .returned (.agg #[.int .i64 T9.status, .int .i64 T9.begun, .int .i64 T9.last, .slice r3 T9.wait.length m3, .slice r4 T9.busy.length m4, .slice r5 T9.vars.length m5, .int .i64 T9.faults, .int .i64 c9]) := hx
              subst hx
              exact hK.out _ (upd (upd z 2 _) 3 _) _ _ (upd_on (upd_on rfl q2) q3) rfl ⟨r3, r4, r5, m3, m4, m5, rfl, hO.le (Nat.zero_le _)⟩ (hG.trans (hb'.mono hG.size)) hb'
            | 5, _ =>
              obtain ⟨r3, r4, r5, m3, m4, m5, qo188, ho188⟩ : ∃ (r3 r4 r5 : Option Addr) (m3 m4 m5 : Nat), z 4 = .agg #[.int .i64 T9.status, .int .i64 T9.begun, .int .i64 T9.last, .slice r3 T9.wait.length m3, .slice r4 T9.busy.length m4, .slice r5 T9.vars.length m5, .int .i64 T9.faults, .int .i64 c9] ∧ StOwn X 0 (.slice r3 T9.wait.length m3) (.slice r4 T9.busy.length m4) (.slice r5 T9.vars.length m5) T9 := hd 4 (by decide)
              have hfr := hf1 r3 r4 r5 m3 m4 m5
              clear hf0 hf1
              refine op_go rfl rfl ?_
              go_simp
              exact hK.out _ (upd z 4 _) _ _ (upd_on rfl qo188) rfl rfl hG (Below.refl _ _)
            | 6, _ =>
              have q1 : z 1 = .int .i64 c9 := hd 1 (by decide)
              have q5 : z 5 = .int .i64 c9 := hd 5 (by decide)
              refine op_go rfl rfl ?_
              go_simp
              exact hK.out _ (upd (upd z 1 _) 5 _) _ _ (upd_on (upd_on rfl q1) q5) rfl rfl hG (Below.refl _ _)
            | 7, _ =>
              have q6 : z 6 = .bool true := hd 6 (by decide)
              refine op_go rfl rfl ?_
              go_simp
              exact hK.out _ (upd z 6 _) _ _ (upd_on rfl q6) rfl rfl hG (Below.refl _ _)
            | 8, _ =>
              have q7 : z 7 = .bool true := hd 7 (by decide)
              refine op_want rfl (by simp [Region.wanted, yielded, q7]) ?_
              go_simp
              exact hK.out _ (upd z 7 _) _ _ (upd_on rfl q7) rfl rfl hG (Below.refl _ _)
            | 9, _ =>
              have q7 : z 7 = .bool true := hd 7 (by decide)
              have q8 : z 8 = .pointer (some ⟨gy, 0, none⟩) := hd 8 (by decide)
              refine op_want rfl (by simp [Region.wanted, yielded, q7]) ?_
              go_simp
              exact hK.out _ (upd (upd z 7 _) 8 _) _ _ (upd_on (upd_on rfl q7) q8) rfl rfl hG (Below.refl _ _)
            | 10, _ =>
              have q7 : z 7 = .bool true := hd 7 (by decide)
              refine op_want rfl (by simp [Region.wanted, yielded, q7]) ?_
              go_simp
              exact hK.out _ (upd z 7 _) _ _ (upd_on rfl q7) rfl rfl hG (Below.refl _ _)
            | 11, _ =>
              have q7 : z 7 = .bool true := hd 7 (by decide)
              refine op_want rfl (by simp [Region.wanted, yielded, q7]) ?_
              go_simp
              exact hK.out _ (upd z 7 _) _ _ (upd_on rfl q7) rfl rfl hG (Below.refl _ _)
            | 12, _ =>
              have q7 : z 7 = .bool true := hd 7 (by decide)
              have q10 : z 10 = .agg #[.slice g1 ss2.length k6, .slice g2 fs2.length k7] := hd 10 (by decide)
              have q11 : z 11 = .slice g6 l.length k8 := hd 11 (by decide)
              refine op_want rfl (by simp [Region.wanted, yielded, q7]) ?_
              go_simp
              refine (cSp.out _ L9).mono ?_
              rintro e X' ⟨v3, v4, v5, hx, hO, hb'⟩
              obtain ⟨r3, r4, r5, m3, m4, m5, rfl, rfl, rfl⟩ := hO.forms
              replace hx : e = .returned (.agg #[.int .i64 T9.status, .int .i64 T9.begun, .int .i64 T9.last, .slice r3 T9.wait.length m3, .slice r4 T9.busy.length m4, .slice r5 T9.vars.length m5, .int .i64 T9.faults, .int .i64 c9]) := hx
              subst hx
              exact hK.out _ (upd (upd (upd z 7 _) 10 _) 11 _) _ _ (upd_on (upd_on (upd_on rfl q7) q10) q11) rfl ⟨r3, r4, r5, m3, m4, m5, rfl, hO.le (Nat.zero_le _)⟩ (hG.trans (hb'.mono hG.size)) hb'
            | 13, _ =>
              have q7 : z 7 = .bool true := hd 7 (by decide)
              obtain ⟨r3, r4, r5, m3, m4, m5, qo196, ho196⟩ : ∃ (r3 r4 r5 : Option Addr) (m3 m4 m5 : Nat), z 12 = .agg #[.int .i64 T9.status, .int .i64 T9.begun, .int .i64 T9.last, .slice r3 T9.wait.length m3, .slice r4 T9.busy.length m4, .slice r5 T9.vars.length m5, .int .i64 T9.faults, .int .i64 c9] ∧ StOwn X 0 (.slice r3 T9.wait.length m3) (.slice r4 T9.busy.length m4) (.slice r5 T9.vars.length m5) T9 := hd 12 (by decide)
              have hfr := hf0 r3 r4 r5 m3 m4 m5
              clear hf0 hf1
              refine op_want rfl (by simp [Region.wanted, yielded, q7]) ?_
              go_simp
              exact hK.out _ (upd (upd z 7 _) 12 _) _ _ (upd_on (upd_on rfl q7) qo196) rfl ⟨r3, r4, r5, m3, m4, m5, rfl, ho196⟩ hG (Below.refl _ _)
            | 14, _ =>
              have q7 : z 7 = .bool true := hd 7 (by decide)
              have q9 : z 9 = .agg #[.int .i64 T9.status, .int .i64 T9.begun, .int .i64 T9.last, .slice s3 T9.wait.length i3, .slice s4 T9.busy.length i4, .slice s5 T9.vars.length i5, .int .i64 T9.faults] := hd 9 (by decide)
              obtain ⟨r3, r4, r5, m3, m4, m5, qo197, ho197⟩ : ∃ (r3 r4 r5 : Option Addr) (m3 m4 m5 : Nat), z 13 = .agg #[.int .i64 T9.status, .int .i64 T9.begun, .int .i64 T9.last, .slice r3 T9.wait.length m3, .slice r4 T9.busy.length m4, .slice r5 T9.vars.length m5, .int .i64 T9.faults] ∧ StOwn X 0 (.slice r3 T9.wait.length m3) (.slice r4 T9.busy.length m4) (.slice r5 T9.vars.length m5) T9 := hd 13 (by decide)
              refine op_want rfl (by simp [Region.wanted, yielded, q7]) ?_
              go_simp
              refine (lwState_any s3 s4 s5 r3 r4 r5 i3 i4 i5 m3 m4 m5 T9 X (own_ssl (O12.out.stay hG).os) (own_ssl ho197) hlw.max.1 hlw.max.2.1 hlw.max.2.2).mono ?_
              rintro e X' ⟨rfl, hb'⟩
              exact hK.out _ (upd (upd (upd z 7 _) 9 _) 13 _) _ _ (upd_on (upd_on (upd_on rfl q7) q9) qo197) rfl rfl (hG.trans (hb'.mono hG.size)) hb'
            | 15, _ =>
              have q7 : z 7 = .bool true := hd 7 (by decide)
              have q14 : z 14 = .bool true := hd 14 (by decide)
              refine op_go rfl rfl ?_
              go_simp
              exact hK.out _ (upd (upd z 7 _) 14 _) _ _ (upd_on (upd_on rfl q7) q14) rfl rfl hG (Below.refl _ _)
            | 16, _ =>
              have q15 : z 15 = .bool true := hd 15 (by decide)
              refine op_go rfl rfl ?_
              go_simp
              exact hK.out _ (upd z 15 _) _ _ (upd_on rfl q15) rfl rfl hG (Below.refl _ _)
            | n9 + 17, h9 => exact absurd h9 (by omega)
          case fin22 =>
            intro z X hG hd
            have q16 : z 16 = .bool true := hd 16 (by decide)
            rw [q16]
            have HG := hid hG
            clear hG hd
            go_wp2
            go_ret
            exact ⟨rfl, B13.out.trans (HG.out.mono B13.out.size)⟩
      | false =>
        refine wp_region_ok mixed 22 [[],[0],[],[],[2,3],[2,3,4],[0,1,2,3,4,5],[0,1,2,3,4,5,6],[0,1,2,3,4,5,6,7],[0,1,2,3,4,5,6,7,8],[0,1,2,3,4,5,6,7],[0,1,2,3,4,5,6,7],[0,1,2,3,4,5,6,7,10,11],[0,1,2,3,4,5,6,7,10,11,12],[0,1,2,3,4,5,6,7,8,9,10,11,12,13],[0,1,2,3,4,5,6,7,8,9,10,11,12,13,14],[0,1,2,3,4,5,6,7,8,9,10,11,12,13,14,15],[0,1,2,3,4,5,6,7,8,9,10,11,12,13,14,15,16],[0,1,2,3,4,5,6,7,8,9,10,11,12,13,14,15,16,17],[0,1,2,3,4,5,6,7,8,9,10,11,12,13,14,15,16,17,18],[0,1,2,3,4,5,6,7,8,9,10,11,12,13,14,15,16,17,18,19],[0,1,2,3,4,5,6,7,8,9,10,11,12,13,14,15,16,17,18,19,20]] (fun y => { tmps := #[.slice p1 n1 c1, .slice p2 n2 c2, undef, undef, u4, .pointer (some ⟨gd, 0, none⟩), .pointer (some ⟨gd + 1, 0, none⟩), .pointer (some ⟨gd + 1 + 1, 0, none⟩), .pointer (some ⟨g8, 0, none⟩), .pointer (some ⟨g9, 0, none⟩), u10, u11, u12, u13, .pointer (some ⟨gf, 0, none⟩), .slice g6 l.length k8, .pointer (some ⟨gy, 0, none⟩), undef, undef, undef, .slice p1 n1 c1, .int .i64 (n1 : Int), .bool (decide (1048576 < (n1 : Int))), .bool (decide (1048576 < (n1 : Int))), .slice p2 n2 c2, .int .i64 (n2 : Int), .bool (decide (1048576 < (n2 : Int))), .bool (decide (1048576 < (n1 : Int)) || decide (1048576 < (n2 : Int))), .tuple #[.agg #[.slice a1 ss.length k1, .slice a2 fs.length k2], .agg #[.int .i64 S.status, .int .i64 S.begun, .int .i64 S.last, .slice a3 S.wait.length k3, .slice a4 S.busy.length k4, .slice a5 S.vars.length k5, .int .i64 S.faults], .agg #[.int .i64 q0, .int .i64 q1, .int .i64 q2, .int .i64 q3, .string q4, .string q5]], .slice p1 n1 c1, .tuple #[.agg #[.slice a1 ss.length k1, .slice a2 fs.length k2], .agg #[.int .i64 S.status, .int .i64 S.begun, .int .i64 S.last, .slice a3 S.wait.length k3, .slice a4 S.busy.length k4, .slice a5 S.vars.length k5, .int .i64 S.faults], .agg #[.int .i64 q0, .int .i64 q1, .int .i64 q2, .int .i64 q3, .string q4, .string q5]], .agg #[.slice a1 ss.length k1, .slice a2 fs.length k2], .agg #[.int .i64 S.status, .int .i64 S.begun, .int .i64 S.last, .slice a3 S.wait.length k3, .slice a4 S.busy.length k4, .slice a5 S.vars.length k5, .int .i64 S.faults], .agg #[.int .i64 q0, .int .i64 q1, .int .i64 q2, .int .i64 q3, .string q4, .string q5], .agg #[.slice a1 ss.length k1, .slice a2 fs.length k2], .agg #[.int .i64 S.status, .int .i64 S.begun, .int .i64 S.last, .slice a3 S.wait.length k3, .slice a4 S.busy.length k4, .slice a5 S.vars.length k5, .int .i64 S.faults], .agg #[.int .i64 q0, .int .i64 q1, .int .i64 q2, .int .i64 q3, .string q4, .string q5], .agg #[.int .i64 T.status, .int .i64 T.begun, .int .i64 T.last, .slice b3 T.wait.length j3, .slice b4 T.busy.length j4, .slice b5 T.vars.length j5, .int .i64 T.faults, .int .i64 c], .agg #[.slice a1 ss.length k1, .slice a2 fs.length k2], .agg #[.int .i64 S.status, .int .i64 S.begun, .int .i64 S.last, .slice a3 S.wait.length k3, .slice a4 S.busy.length k4, .slice a5 S.vars.length k5, .int .i64 S.faults], .agg #[.int .i64 q0, .int .i64 q1, .int .i64 q2, .int .i64 q3, .string q4, .string q5], .agg #[.int .i64 T.status, .int .i64 T.begun, .int .i64 T.last, .slice d3 T.wait.length l3, .slice d4 T.busy.length l4, .slice d5 T.vars.length l5, .int .i64 T.faults, .int .i64 c], v 0, v 1, v 2, v 3, v 4, v 5, v 6, v 7, v 8, v 9, v 10, v 11, v 12, v 13, v 14, v 15, v 16, v 17, v 18, v 19, v 20, v 21, v 22, v 23, v 24, v 25, v 26, v 27, .bool false, .pointer (some ⟨g8, 7, none⟩), .int .i64 c, .bool cb, u74, u75, u76, u77, u78, u79, u80, u81, u82, u83, u84, u85, u86, u87, u88, u89, u90, u91, u92, u93, u94, u95, u96, u97, u98, u99, u100, u101, u102, u103, u104, u105, u106, u107, u108, u109, u110, u111, u112, u113, u114, u115, u116, u117, u118, u119, u120, u121, u122, u123, u124, u125, u126, u127, u128, u129, u130, u131, u132, u133, u134, u135, u136, u137, u138, u139, u140, u141, u142, u143, u144, u145, u146, u147, u148, u149, u150, u151, u152, u153, .tuple #[.agg #[.slice g1 ss2.length k6, .slice g2 fs2.length k7], .slice g6 l.length k8], .slice p2 n2 c2, .tuple #[.agg #[.slice g1 ss2.length k6, .slice g2 fs2.length k7], .slice g6 l.length k8], .agg #[.slice g1 ss2.length k6, .slice g2 fs2.length k7], .slice g6 l.length k8, .agg #[.slice g1 ss2.length k6, .slice g2 fs2.length k7], .slice g6 l.length k8, .agg #[.int .i64 T9.status, .int .i64 T9.begun, .int .i64 T9.last, .slice s3 T9.wait.length i3, .slice s4 T9.busy.length i4, .slice s5 T9.vars.length i5, .int .i64 T9.faults, .int .i64 c9], y 0, y 1, y 2, y 3, y 4, y 5, y 6, y 7, y 8, y 9, y 10, y 11, y 12, y 13, y 14, y 15, y 16, y 17, y 18, y 19, y 20, y 21, undef, undef, undef, undef, undef, undef, undef, undef, undef, undef, undef, undef, undef, undef, undef, undef, undef, undef, undef, undef, undef, undef, undef, undef, undef, undef, undef, undef, undef, undef, undef, undef, undef, undef, undef, undef, undef, undef, undef], defers := [] }) (fun i9 => match i9 with | _ => undef) (fun i9 x X => match i9 with
          | 0 => x = .pointer (some ⟨gy, 7, none⟩)
          | 1 => x = .int .i64 c9
          | 2 => x = .agg #[.slice g1 ss2.length k6, .slice g2 fs2.length k7]
          | 3 => x = .slice g6 l.length k8
          | 4 => ∃ (r3 r4 r5 : Option Addr) (m3 m4 m5 : Nat), x = .agg #[.int .i64 T9.status, .int .i64 T9.begun, .int .i64 T9.last, .slice r3 T9.wait.length m3, .slice r4 T9.busy.length m4, .slice r5 T9.vars.length m5, .int .i64 T9.faults, .int .i64 c9] ∧ StOwn X 0 (.slice r3 T9.wait.length m3) (.slice r4 T9.busy.length m4) (.slice r5 T9.vars.length m5) T9
          | 5 => x = .int .i64 c9
          | 6 => x = .bool false
          | 7 => x = .bool false
          | 8 => x = .pointer (some ⟨gy, 0, none⟩)
          | 9 => x = .agg #[.int .i64 T9.status, .int .i64 T9.begun, .int .i64 T9.last, .slice s3 T9.wait.length i3, .slice s4 T9.busy.length i4, .slice s5 T9.vars.length i5, .int .i64 T9.faults]
          | 10 => x = .agg #[.slice g1 ss2.length k6, .slice g2 fs2.length k7]
          | 11 => x = .slice g6 l.length k8
          | 12 => ∃ (r3 r4 r5 : Option Addr) (m3 m4 m5 : Nat), x = .agg #[.int .i64 T9.status, .int .i64 T9.begun, .int .i64 T9.last, .slice r3 T9.wait.length m3, .slice r4 T9.busy.length m4, .slice r5 T9.vars.length m5, .int .i64 T9.faults, .int .i64 c9] ∧ StOwn X 0 (.slice r3 T9.wait.length m3) (.slice r4 T9.busy.length m4) (.slice r5 T9.vars.length m5) T9
          | 13 => ∃ (r3 r4 r5 : Option Addr) (m3 m4 m5 : Nat), x = .agg #[.int .i64 T9.status, .int .i64 T9.begun, .int .i64 T9.last, .slice r3 T9.wait.length m3, .slice r4 T9.busy.length m4, .slice r5 T9.vars.length m5, .int .i64 T9.faults] ∧ StOwn X 0 (.slice r3 T9.wait.length m3) (.slice r4 T9.busy.length m4) (.slice r5 T9.vars.length m5) T9
          | 14 => x = .bool true
          | 15 => x = .bool false
          | 16 => x = .bool false
          | 17 => x = .bool false
          | 18 => x = .pointer (some ⟨gy, 7, none⟩)
          | 19 => x = .int .i64 c9
          | 20 => x = .bool false
          | 21 => x = .bool false
          | _ => True) (fun X => Below W12.heap.size W12 X) (fun X X' => Below X.heap.size X X') (by kernel_rfl) rfl ((Below.refl _ _).drew) ?mono21f ?step21f ?fin21f
        case mono21f =>
          intro i9 x X X' hi9 hG hS h
          match i9, hi9 with
          | 0, _ | 1, _ | 2, _ | 3, _ | 5, _ | 6, _ | 7, _ | 8, _ | 9, _ | 10, _ | 11, _ | 14, _ | 15, _ | 16, _ | 17, _ | 18, _ | 19, _ | 20, _ | 21, _ => exact h
          | 4, _ => obtain ⟨r3, r4, r5, m3, m4, m5, e, hO⟩ := h; exact ⟨r3, r4, r5, m3, m4, m5, e, hO.stay hS⟩
          | 12, _ => obtain ⟨r3, r4, r5, m3, m4, m5, e, hO⟩ := h; exact ⟨r3, r4, r5, m3, m4, m5, e, hO.stay hS⟩
          | 13, _ => obtain ⟨r3, r4, r5, m3, m4, m5, e, hO⟩ := h; exact ⟨r3, r4, r5, m3, m4, m5, e, hO.stay hS⟩
          | n9 + 22, h9 => exact absurd h9 (by omega)
        case step21f =>
          intro i9 y X hi9 hG hd hu K hK
          have HU := hid hu
          clear hu
          have L9 := L12.out.stay hG
          obtain ⟨d0, d1⟩ := L9.cells
          obtain ⟨t0, t1, t2, t3, t4, t5, t6, t7⟩ := (O12.out.stay hG).cells
          match i9, hi9 with
          | 0, _ =>
            refine op_go rfl rfl ?_
            go_simp
            exact hK.out _ y _ _ rfl rfl rfl hG (Below.refl _ _)
          | 1, _ =>
            have q0 : y 0 = .pointer (some ⟨gy, 7, none⟩) := hd 0 (by decide)
            refine op_go rfl rfl ?_
            go_simp
            exact hK.out _ (upd y 0 _) _ _ (upd_on rfl q0) rfl rfl hG (Below.refl _ _)
          | 2, _ =>
            refine op_go rfl rfl ?_
            go_simp
            exact hK.out _ y _ _ rfl rfl rfl hG (Below.refl _ _)
          | 3, _ =>
            refine op_go rfl rfl ?_
            go_simp
            exact hK.out _ y _ _ rfl rfl rfl hG (Below.refl _ _)
          | 4, _ =>
            have q2 : y 2 = .agg #[.slice g1 ss2.length k6, .slice g2 fs2.length k7] := hd 2 (by decide)
            have q3 : y 3 = .slice g6 l.length k8 := hd 3 (by decide)
            refine op_go rfl rfl ?_
            go_simp
            refine (cSp.out _ L9).mono ?_
            rintro e X' ⟨v3, v4, v5, hx, hO, hb'⟩
            obtain ⟨r3, r4, r5, m3, m4, m5, rfl, rfl, rfl⟩ := hO.forms
            replace hx : e = .returned (.agg #[.int .i64 T9.status, .int .i64 T9.begun, .int .i64 T9.last, .slice r3 T9.wait.length m3, .slice r4 T9.busy.length m4, .slice r5 T9.vars.length m5, .int .i64 T9.faults, .int .i64 c9]) := hx
            subst hx
            exact hK.out _ (upd (upd y 2 _) 3 _) _ _ (upd_on (upd_on rfl q2) q3) rfl ⟨r3, r4, r5, m3, m4, m5, rfl, hO.le (Nat.zero_le _)⟩ (hG.trans (hb'.mono hG.size)) hb'
          | 5, _ =>
            obtain ⟨r3, r4, r5, m3, m4, m5, qo166, ho166⟩ : ∃ (r3 r4 r5 : Option Addr) (m3 m4 m5 : Nat), y 4 = .agg #[.int .i64 T9.status, .int .i64 T9.begun, .int .i64 T9.last, .slice r3 T9.wait.length m3, .slice r4 T9.busy.length m4, .slice r5 T9.vars.length m5, .int .i64 T9.faults, .int .i64 c9] ∧ StOwn X 0 (.slice r3 T9.wait.length m3) (.slice r4 T9.busy.length m4) (.slice r5 T9.vars.length m5) T9 := hd 4 (by decide)
            have hfr := hf1 r3 r4 r5 m3 m4 m5
            clear hf0 hf1
            refine op_go rfl rfl ?_
            go_simp
            exact hK.out _ (upd y 4 _) _ _ (upd_on rfl qo166) rfl rfl hG (Below.refl _ _)
          | 6, _ =>
            have q1 : y 1 = .int .i64 c9 := hd 1 (by decide)
            have q5 : y 5 = .int .i64 c9 := hd 5 (by decide)
            refine op_go rfl rfl ?_
            go_simp
            exact hK.out _ (upd (upd y 1 _) 5 _) _ _ (upd_on (upd_on rfl q1) q5) rfl rfl hG (Below.refl _ _)
          | 7, _ =>
            have q6 : y 6 = .bool false := hd 6 (by decide)
            refine op_go rfl rfl ?_
            go_simp
            exact hK.out _ (upd y 6 _) _ _ (upd_on rfl q6) rfl rfl hG (Below.refl _ _)
          | 8, _ =>
            have q7 : y 7 = .bool false := hd 7 (by decide)
            refine op_want rfl (by simp [Region.wanted, yielded, q7]) ?_
            go_simp
            exact hK.out _ (upd y 7 _) _ _ (upd_on rfl q7) rfl rfl hG (Below.refl _ _)
          | 9, _ =>
            have q7 : y 7 = .bool false := hd 7 (by decide)
            have q8 : y 8 = .pointer (some ⟨gy, 0, none⟩) := hd 8 (by decide)
            refine op_want rfl (by simp [Region.wanted, yielded, q7]) ?_
            go_simp
            exact hK.out _ (upd (upd y 7 _) 8 _) _ _ (upd_on (upd_on rfl q7) q8) rfl rfl hG (Below.refl _ _)
          | 10, _ =>
            have q7 : y 7 = .bool false := hd 7 (by decide)
            refine op_want rfl (by simp [Region.wanted, yielded, q7]) ?_
            go_simp
            exact hK.out _ (upd y 7 _) _ _ (upd_on rfl q7) rfl rfl hG (Below.refl _ _)
          | 11, _ =>
            have q7 : y 7 = .bool false := hd 7 (by decide)
            refine op_want rfl (by simp [Region.wanted, yielded, q7]) ?_
            go_simp
            exact hK.out _ (upd y 7 _) _ _ (upd_on rfl q7) rfl rfl hG (Below.refl _ _)
          | 12, _ =>
            have q7 : y 7 = .bool false := hd 7 (by decide)
            have q10 : y 10 = .agg #[.slice g1 ss2.length k6, .slice g2 fs2.length k7] := hd 10 (by decide)
            have q11 : y 11 = .slice g6 l.length k8 := hd 11 (by decide)
            refine op_want rfl (by simp [Region.wanted, yielded, q7]) ?_
            go_simp
            refine (cSp.out _ L9).mono ?_
            rintro e X' ⟨v3, v4, v5, hx, hO, hb'⟩
            obtain ⟨r3, r4, r5, m3, m4, m5, rfl, rfl, rfl⟩ := hO.forms
            replace hx : e = .returned (.agg #[.int .i64 T9.status, .int .i64 T9.begun, .int .i64 T9.last, .slice r3 T9.wait.length m3, .slice r4 T9.busy.length m4, .slice r5 T9.vars.length m5, .int .i64 T9.faults, .int .i64 c9]) := hx
            subst hx
            exact hK.out _ (upd (upd (upd y 7 _) 10 _) 11 _) _ _ (upd_on (upd_on (upd_on rfl q7) q10) q11) rfl ⟨r3, r4, r5, m3, m4, m5, rfl, hO.le (Nat.zero_le _)⟩ (hG.trans (hb'.mono hG.size)) hb'
          | 13, _ =>
            have q7 : y 7 = .bool false := hd 7 (by decide)
            obtain ⟨r3, r4, r5, m3, m4, m5, qo174, ho174⟩ : ∃ (r3 r4 r5 : Option Addr) (m3 m4 m5 : Nat), y 12 = .agg #[.int .i64 T9.status, .int .i64 T9.begun, .int .i64 T9.last, .slice r3 T9.wait.length m3, .slice r4 T9.busy.length m4, .slice r5 T9.vars.length m5, .int .i64 T9.faults, .int .i64 c9] ∧ StOwn X 0 (.slice r3 T9.wait.length m3) (.slice r4 T9.busy.length m4) (.slice r5 T9.vars.length m5) T9 := hd 12 (by decide)
            have hfr := hf0 r3 r4 r5 m3 m4 m5
            clear hf0 hf1
            refine op_want rfl (by simp [Region.wanted, yielded, q7]) ?_
            go_simp
            exact hK.out _ (upd (upd y 7 _) 12 _) _ _ (upd_on (upd_on rfl q7) qo174) rfl ⟨r3, r4, r5, m3, m4, m5, rfl, ho174⟩ hG (Below.refl _ _)
          | 14, _ =>
            have q7 : y 7 = .bool false := hd 7 (by decide)
            have q9 : y 9 = .agg #[.int .i64 T9.status, .int .i64 T9.begun, .int .i64 T9.last, .slice s3 T9.wait.length i3, .slice s4 T9.busy.length i4, .slice s5 T9.vars.length i5, .int .i64 T9.faults] := hd 9 (by decide)
            obtain ⟨r3, r4, r5, m3, m4, m5, qo175, ho175⟩ : ∃ (r3 r4 r5 : Option Addr) (m3 m4 m5 : Nat), y 13 = .agg #[.int .i64 T9.status, .int .i64 T9.begun, .int .i64 T9.last, .slice r3 T9.wait.length m3, .slice r4 T9.busy.length m4, .slice r5 T9.vars.length m5, .int .i64 T9.faults] ∧ StOwn X 0 (.slice r3 T9.wait.length m3) (.slice r4 T9.busy.length m4) (.slice r5 T9.vars.length m5) T9 := hd 13 (by decide)
            refine op_want rfl (by simp [Region.wanted, yielded, q7]) ?_
            go_simp
            refine (lwState_any s3 s4 s5 r3 r4 r5 i3 i4 i5 m3 m4 m5 T9 X (own_ssl (O12.out.stay hG).os) (own_ssl ho175) hlw.max.1 hlw.max.2.1 hlw.max.2.2).mono ?_
            rintro e X' ⟨rfl, hb'⟩
            exact hK.out _ (upd (upd (upd y 7 _) 9 _) 13 _) _ _ (upd_on (upd_on (upd_on rfl q7) q9) qo175) rfl rfl (hG.trans (hb'.mono hG.size)) hb'
          | 15, _ =>
            have q7 : y 7 = .bool false := hd 7 (by decide)
            have q14 : y 14 = .bool true := hd 14 (by decide)
            refine op_want rfl (by simp [Region.wanted, yielded, q7]) ?_
            go_simp
            exact hK.out _ (upd (upd y 7 _) 14 _) _ _ (upd_on (upd_on rfl q7) q14) rfl rfl hG (Below.refl _ _)
          | 16, _ =>
            have q7 : y 7 = .bool false := hd 7 (by decide)
            have q15 : y 15 = .bool false := hd 15 (by decide)
            refine op_go rfl rfl ?_
            go_simp
            exact hK.out _ (upd (upd y 7 _) 15 _) _ _ (upd_on (upd_on rfl q7) q15) rfl rfl hG (Below.refl _ _)
          | 17, _ =>
            have q16 : y 16 = .bool false := hd 16 (by decide)
            refine op_go rfl rfl ?_
            go_simp
            exact hK.out _ (upd y 16 _) _ _ (upd_on rfl q16) rfl rfl hG (Below.refl _ _)
          | 18, _ =>
            have q17 : y 17 = .bool false := hd 17 (by decide)
            refine op_want rfl (by simp [Region.wanted, yielded, q17]) ?_
            go_simp
            exact hK.out _ (upd y 17 _) _ _ (upd_on rfl q17) rfl rfl hG (Below.refl _ _)
          | 19, _ =>
            have q17 : y 17 = .bool false := hd 17 (by decide)
            have q18 : y 18 = .pointer (some ⟨gy, 7, none⟩) := hd 18 (by decide)
            refine op_want rfl (by simp [Region.wanted, yielded, q17]) ?_
            go_simp
            exact hK.out _ (upd (upd y 17 _) 18 _) _ _ (upd_on (upd_on rfl q17) q18) rfl rfl hG (Below.refl _ _)
          | 20, _ =>
            have q17 : y 17 = .bool false := hd 17 (by decide)
            have q19 : y 19 = .int .i64 c9 := hd 19 (by decide)
            refine op_want rfl (by simp [Region.wanted, yielded, q17]) ?_
            go_simp
            exact hK.out _ (upd (upd y 17 _) 19 _) _ _ (upd_on (upd_on rfl q17) q19) rfl rfl hG (Below.refl _ _)
          | 21, _ =>
            have q17 : y 17 = .bool false := hd 17 (by decide)
            have q20 : y 20 = .bool false := hd 20 (by decide)
            refine op_go rfl rfl ?_
            go_simp
            exact hK.out _ (upd (upd y 17 _) 20 _) _ _ (upd_on (upd_on rfl q17) q20) rfl rfl hG (Below.refl _ _)
          | n9 + 22, h9 => exact absurd h9 (by omega)
        case fin21f =>
          intro y X hG hd
          have q21 : y 21 = .bool false := hd 21 (by decide)
          rw [q21]
          have L13 := hid (L12.out.stay hG)
          have O13 := hid (O12.out.stay hG)
          have B13 := hid (B12.out.trans (hG.mono B12.out.size))
          clear hG hd q21
          have hc9 : c9 = 0 := by simpa using hcb9
          obtain ⟨hDf, hof⟩ := hlaw.out hc9
          have HDf := hid hDf
          have HOf := hid hof
          clear hDf hof hlaw L12 O12 B12 hf0 hf1 hcb9 hc9 cSp
          generalize X = WB at *
          go_wp2_with fail
          go_loopw [18] (fun kv wr => ∃ (k : Nat) (Z : St) (r3 r4 r5 : Option Addr) (m3 m4 m5 : Nat), kv = .int .i64 k ∧ k ≤ l.length ∧ StP ss2 Z ∧ ofS ss2 fs2 (l.drop k) Z = (0, T9) ∧ Below WB.heap.size WB wr ∧ wr.heap[WB.heap.size]? = some (.cells (stLs (.slice r3 Z.wait.length m3) (.slice r4 Z.busy.length m4) (.slice r5 Z.vars.length m5) Z).toArray 29 (0, 0)) ∧ StOwn wr 0 (.slice r3 Z.wait.length m3) (.slice r4 Z.busy.length m4) (.slice r5 Z.vars.length m5) Z) (fun kv _ => l.length - (intOf kv).toNat)
          case atStart => exact ⟨0, z0, none, none, none, 0, 0, 0, rfl, Nat.zero_le _, z0_right ss2, by rw [List.drop_zero]; exact HOf.out, (Below.refl _ _).alloc (Nat.le_refl _) _, heap_alloc_new WB _, StOwn.none _ _⟩
          case round =>
            obtain ⟨k, Z, r3, r4, r5, m3, m4, m5, rfl, hk, hZ, hof, hbr, hzb, hzo⟩ := hrel
            have HZ := hid hZ
            have HO := hid hof
            have HBR := hid hbr
            have HZB := hid hzb
            have HZO := hid hzo
            have LR := hid (L13.out.stay hbr)
            have OR := hid (O13.out.stay hbr)
            clear hZ hof hbr hzb hzo
            by_cases hlt : k < l.length
            · obtain ⟨gl, ol, hg6, hE⟩ := EvSl.rowE (sl_of_own LR.out.ol) (by omega)
              subst hg6
              have hcons := ofS_cons HDf.out HZ.out (show ofS ss2 fs2 (l[k] :: l.drop (k + 1)) Z = (0, T9) by rw [← List.drop_eq_getElem_cons hlt]; exact HO.out)
              have hs9 := hse.out _ (List.getElem_mem hlt)
              have hek := hE.2 k hlt
              have HEK := hid (show ∃ q0 q1 q2 q3 q4 q5, l[k] = ⟨q0, q1, q2, q3, q4, q5⟩ from ⟨_, _, _, _, _, _, rfl⟩)
              obtain ⟨o0, o1, o2, o3, o4, o5, hlk⟩ := HEK.out
              rw [hlk] at hcons hs9 hek
              have hgl := hE.1
              have HC := hid hcons
              have HS9 := hid hs9
              have HEE := hid hek
              clear hcons hs9 hek hlk HEK hE
              have hzp := stP_small HZ.out
              have cI := hid (fun X (hb : Below wr.heap.size wr X) => implStateStep_any g1 g2 r3 r4 r5 k6 k7 m3 m4 m5 ss2 fs2 Z ⟨o0, o1, o2, o3, o4, o5⟩ X (own_dsl (LR.out.stay hb).o1 (LR.out.stay hb).o2) (own_ssl (HZO.out.stay hb)) F1.out (fit_small (smS_of hsh.out HZ.out).sv) (show o4.size ≤ maxLen from (by have h9 : o4.size ≤ 100 := HS9.out.1; unfold maxLen; omega)) N1.out N2.out (by unfold maxLen; omega) (by unfold maxLen; omega) (by unfold maxLen; omega) F2.out e0 e1 e2 e3 e4 (LR.out.stay hb).er)
              clear hzp HS9 HO
              generalize hrs : rS ss2 fs2 Z ⟨o0, o1, o2, o3, o4, o5⟩ = cs at *
              clear hrs
              obtain ⟨c7, Y⟩ := cs
              simp only at HC cI
              obtain ⟨hc7, hY, hYo⟩ := HC.out
              subst hc7
              have HY := hid hY
              have HYO := hid hYo
              clear hY hYo HC
              obtain ⟨d0, d1⟩ := LR.out.cells
              go_upto_region 27 with fail
              refine wp_region_okL mixed 8 [[],[],[],[],[2,3],[2,3,4],[0,1,2,3,4,5],[],[0,1,2,3,4,5,6,7]] (fun z => { tmps := #[.slice p1 n1 c1, .slice p2 n2 c2, undef, undef, u4, .pointer (some ⟨gd, 0, none⟩), .pointer (some ⟨gd + 1, 0, none⟩), .pointer (some ⟨gd + 1 + 1, 0, none⟩), .pointer (some ⟨g8, 0, none⟩), .pointer (some ⟨g9, 0, none⟩), u10, u11, u12, u13, .pointer (some ⟨gf, 0, none⟩), .slice (some ⟨gl, ol, none⟩) l.length k8, .pointer (some ⟨gy, 0, none⟩), .pointer (some ⟨WB.heap.size, 0, none⟩), .int .i64 (k : Int), z 7, .slice p1 n1 c1, .int .i64 (n1 : Int), .bool (decide (1048576 < (n1 : Int))), .bool (decide (1048576 < (n1 : Int))), .slice p2 n2 c2, .int .i64 (n2 : Int), .bool (decide (1048576 < (n2 : Int))), .bool (decide (1048576 < (n1 : Int)) || decide (1048576 < (n2 : Int))), .tuple #[.agg #[.slice a1 ss.length k1, .slice a2 fs.length k2], .agg #[.int .i64 S.status, .int .i64 S.begun, .int .i64 S.last, .slice a3 S.wait.length k3, .slice a4 S.busy.length k4, .slice a5 S.vars.length k5, .int .i64 S.faults], .agg #[.int .i64 q0, .int .i64 q1, .int .i64 q2, .int .i64 q3, .string q4, .string q5]], .slice p1 n1 c1, .tuple #[.agg #[.slice a1 ss.length k1, .slice a2 fs.length k2], .agg #[.int .i64 S.status, .int .i64 S.begun, .int .i64 S.last, .slice a3 S.wait.length k3, .slice a4 S.busy.length k4, .slice a5 S.vars.length k5, .int .i64 S.faults], .agg #[.int .i64 q0, .int .i64 q1, .int .i64 q2, .int .i64 q3, .string q4, .string q5]], .agg #[.slice a1 ss.length k1, .slice a2 fs.length k2], .agg #[.int .i64 S.status, .int .i64 S.begun, .int .i64 S.last, .slice a3 S.wait.length k3, .slice a4 S.busy.length k4, .slice a5 S.vars.length k5, .int .i64 S.faults], .agg #[.int .i64 q0, .int .i64 q1, .int .i64 q2, .int .i64 q3, .string q4, .string q5], .agg #[.slice a1 ss.length k1, .slice a2 fs.length k2], .agg #[.int .i64 S.status, .int .i64 S.begun, .int .i64 S.last, .slice a3 S.wait.length k3, .slice a4 S.busy.length k4, .slice a5 S.vars.length k5, .int .i64 S.faults], .agg #[.int .i64 q0, .int .i64 q1, .int .i64 q2, .int .i64 q3, .string q4, .string q5], .agg #[.int .i64 T.status, .int .i64 T.begun, .int .i64 T.last, .slice b3 T.wait.length j3, .slice b4 T.busy.length j4, .slice b5 T.vars.length j5, .int .i64 T.faults, .int .i64 c], .agg #[.slice a1 ss.length k1, .slice a2 fs.length k2], .agg #[.int .i64 S.status, .int .i64 S.begun, .int .i64 S.last, .slice a3 S.wait.length k3, .slice a4 S.busy.length k4, .slice a5 S.vars.length k5, .int .i64 S.faults], .agg #[.int .i64 q0, .int .i64 q1, .int .i64 q2, .int .i64 q3, .string q4, .string q5], .agg #[.int .i64 T.status, .int .i64 T.begun, .int .i64 T.last, .slice d3 T.wait.length l3, .slice d4 T.busy.length l4, .slice d5 T.vars.length l5, .int .i64 T.faults, .int .i64 c], v 0, v 1, v 2, v 3, v 4, v 5, v 6, v 7, v 8, v 9, v 10, v 11, v 12, v 13, v 14, v 15, v 16, v 17, v 18, v 19, v 20, v 21, v 22, v 23, v 24, v 25, v 26, v 27, .bool false, .pointer (some ⟨g8, 7, none⟩), .int .i64 c, .bool cb, u74, u75, u76, u77, u78, u79, u80, u81, u82, u83, u84, u85, u86, u87, u88, u89, u90, u91, u92, u93, u94, u95, u96, u97, u98, u99, u100, u101, u102, u103, u104, u105, u106, u107, u108, u109, u110, u111, u112, u113, u114, u115, u116, u117, u118, u119, u120, u121, u122, u123, u124, u125, u126, u127, u128, u129, u130, u131, u132, u133, u134, u135, u136, u137, u138, u139, u140, u141, u142, u143, u144, u145, u146, u147, u148, u149, u150, u151, u152, u153, .tuple #[.agg #[.slice g1 ss2.length k6, .slice g2 fs2.length k7], .slice (some ⟨gl, ol, none⟩) l.length k8], .slice p2 n2 c2, .tuple #[.agg #[.slice g1 ss2.length k6, .slice g2 fs2.length k7], .slice (some ⟨gl, ol, none⟩) l.length k8], .agg #[.slice g1 ss2.length k6, .slice g2 fs2.length k7], .slice (some ⟨gl, ol, none⟩) l.length k8, .agg #[.slice g1 ss2.length k6, .slice g2 fs2.length k7], .slice (some ⟨gl, ol, none⟩) l.length k8, .agg #[.int .i64 T9.status, .int .i64 T9.begun, .int .i64 T9.last, .slice s3 T9.wait.length i3, .slice s4 T9.busy.length i4, .slice s5 T9.vars.length i5, .int .i64 T9.faults, .int .i64 c9], y 0, y 1, y 2, y 3, y 4, y 5, y 6, y 7, y 8, y 9, y 10, y 11, y 12, y 13, y 14, y 15, y 16, y 17, y 18, y 19, y 20, .bool false, undef, undef, undef, undef, undef, undef, undef, undef, undef, undef, undef, undef, undef, undef, undef, undef, .agg #[.int .i64 0, .int .i64 0, .int .i64 0, .slice none 0 0, .slice none 0 0, .slice none 0 0, .int .i64 0], .int .i64 (k : Int), .slice (some ⟨gl, ol, none⟩) l.length k8, .int .i64 (l.length : Int), .bool true, u205, u206, z 0, z 1, z 2, z 3, z 4, z 5, z 6, u214, u215, u216, u217, u218, undef, undef, undef, undef], defers := [] }) (fun i9 => match i9 with | 0 => u207 | 1 => u208 | 2 => u209 | 3 => u210 | 4 => u211 | 5 => u212 | 6 => u213 | 7 => u19 | _ => undef) (fun i9 x X => match i9 with
                | 0 => x = .agg #[.slice g1 ss2.length k6, .slice g2 fs2.length k7]
                | 1 => x = .agg #[.int .i64 Z.status, .int .i64 Z.begun, .int .i64 Z.last, .slice r3 Z.wait.length m3, .slice r4 Z.busy.length m4, .slice r5 Z.vars.length m5, .int .i64 Z.faults]
                | 2 => x = .slice (some ⟨gl, ol, none⟩) l.length k8
                | 3 => x = .int .i64 k
                | 4 => x = .pointer (some ⟨gl, ol + k * 6, none⟩)
                | 5 => x = .agg #[.int .i64 o0, .int .i64 o1, .int .i64 o2, .int .i64 o3, .string o4, .string o5]
                | 6 => ∃ (h3 h4 h5 : Option Addr) (x3 x4 x5 : Nat), x = .agg #[.int .i64 Y.status, .int .i64 Y.begun, .int .i64 Y.last, .slice h3 Y.wait.length x3, .slice h4 Y.busy.length x4, .slice h5 Y.vars.length x5, .int .i64 Y.faults, .int .i64 0] ∧ StOwn X 0 (.slice h3 Y.wait.length x3) (.slice h4 Y.busy.length x4) (.slice h5 Y.vars.length x5) Y
                | 7 => ∃ g : Nat, x = .pointer (some ⟨g, 0, none⟩) ∧ X.heap[g]? = some (.cells [.int .i64 0, .int .i64 0, .int .i64 0, .slice none 0 0, .slice none 0 0, .slice none 0 0, .int .i64 0, .int .i64 0].toArray 35 (0, 0)) ∧ wr.heap.size ≤ g
                | _ => True) (fun X => Below wr.heap.size wr X) (fun X X' => Below X.heap.size X X') (by kernel_rfl) rfl ((Below.refl _ _).drew) ?mono27 ?step27 ?last27 (fun h => absurd h (by decide))
              case mono27 =>
                intro i9 x X X' hi9 hG hS h
                match i9, hi9 with
                | 0, _ | 1, _ | 2, _ | 3, _ | 4, _ | 5, _ => exact h
                | 6, _ => obtain ⟨h3, h4, h5, x3, x4, x5, e, hO⟩ := h; exact ⟨h3, h4, h5, x3, x4, x5, e, hO.stay hS⟩
                | 7, _ => obtain ⟨g, e, hB, hgg⟩ := h; exact ⟨g, e, (hS.block g (lt_heap hB)).trans hB, hgg⟩
              case step27 =>
                intro i9 z X hi9 hG hd hu K hK
                have HU := hid hu
                clear hu
                obtain ⟨d0, d1⟩ := (LR.out.stay hG).cells
                have hzX := (hG.block _ (lt_heap HZB.out)).trans HZB.out
                have y0 : X.cell? ⟨WB.heap.size, 0, none⟩ = some (.int .i64 Z.status) := by rw [Lib.cell_of_heap hzX]; rfl
                have y1 : X.cell? ⟨WB.heap.size, 1, none⟩ = some (.int .i64 Z.begun) := by rw [Lib.cell_of_heap hzX]; rfl
                have y2 : X.cell? ⟨WB.heap.size, 2, none⟩ = some (.int .i64 Z.last) := by rw [Lib.cell_of_heap hzX]; rfl
                have y3 : X.cell? ⟨WB.heap.size, 3, none⟩ = some (.slice r3 Z.wait.length m3) := by rw [Lib.cell_of_heap hzX]; rfl
                have y4 : X.cell? ⟨WB.heap.size, 4, none⟩ = some (.slice r4 Z.busy.length m4) := by rw [Lib.cell_of_heap hzX]; rfl
                have y5 : X.cell? ⟨WB.heap.size, 5, none⟩ = some (.slice r5 Z.vars.length m5) := by rw [Lib.cell_of_heap hzX]; rfl
                have y6 : X.cell? ⟨WB.heap.size, 6, none⟩ = some (.int .i64 Z.faults) := by rw [Lib.cell_of_heap hzX]; rfl
                obtain ⟨u0, u1, u2, u3, u4, u5⟩ := HEE.out.below hG hgl
                clear hzX
                match i9, hi9 with
                | 0, _ =>
                  refine op_go rfl rfl ?_
                  go_simp
                  exact hK.out _ z _ _ rfl rfl rfl hG (Below.refl _ _)
                | 1, _ =>
                  refine op_go rfl rfl ?_
                  go_simp
                  exact hK.out _ z _ _ rfl rfl rfl hG (Below.refl _ _)
                | 2, _ =>
                  refine op_go rfl rfl ?_
                  go_simp
                  exact hK.out _ z _ _ rfl rfl rfl hG (Below.refl _ _)
                | 3, _ =>
                  refine op_go rfl rfl ?_
                  go_simp
                  exact hK.out _ z _ _ rfl rfl rfl hG (Below.refl _ _)
                | 4, _ =>
                  have q2 : z 2 = .slice (some ⟨gl, ol, none⟩) l.length k8 := hd 2 (by decide)
                  have q3 : z 3 = .int .i64 k := hd 3 (by decide)
                  have z9 : (k : Int) < (l.length : Int) := by omega
                  refine op_go rfl rfl ?_
                  go_simp
                  exact hK.out _ (upd (upd z 2 _) 3 _) _ _ (upd_on (upd_on rfl q2) q3) rfl rfl hG (Below.refl _ _)
                | 5, _ =>
                  have q4 : z 4 = .pointer (some ⟨gl, ol + k * 6, none⟩) := hd 4 (by decide)
                  refine op_go rfl rfl ?_
                  go_simp
                  exact hK.out _ (upd z 4 _) _ _ (upd_on rfl q4) rfl rfl hG (Below.refl _ _)
                | 6, _ =>
                  have q0 : z 0 = .agg #[.slice g1 ss2.length k6, .slice g2 fs2.length k7] := hd 0 (by decide)
                  have q1 : z 1 = .agg #[.int .i64 Z.status, .int .i64 Z.begun, .int .i64 Z.last, .slice r3 Z.wait.length m3, .slice r4 Z.busy.length m4, .slice r5 Z.vars.length m5, .int .i64 Z.faults] := hd 1 (by decide)
                  have q5 : z 5 = .agg #[.int .i64 o0, .int .i64 o1, .int .i64 o2, .int .i64 o3, .string o4, .string o5] := hd 5 (by decide)
                  refine op_go rfl rfl ?_
                  go_simp
                  refine (cI.out _ hG).mono ?_
                  rintro e X' ⟨v3, v4, v5, hx, hO, hb'⟩
                  obtain ⟨h3, h4, h5, x3, x4, x5, rfl, rfl, rfl⟩ := hO.forms
                  replace hx : e = .returned (.agg #[.int .i64 Y.status, .int .i64 Y.begun, .int .i64 Y.last, .slice h3 Y.wait.length x3, .slice h4 Y.busy.length x4, .slice h5 Y.vars.length x5, .int .i64 Y.faults, .int .i64 0]) := hx
                  subst hx
                  exact hK.out _ (upd (upd (upd z 0 _) 1 _) 5 _) _ _ (upd_on (upd_on (upd_on rfl q0) q1) q5) rfl ⟨h3, h4, h5, x3, x4, x5, rfl, hO.le (Nat.zero_le _)⟩ (hG.trans (hb'.mono hG.size)) hb'
                | 7, _ =>
                  refine op_go rfl rfl ?_
                  go_simp
                  exact hK.out _ z _ _ rfl rfl ⟨_, rfl, heap_alloc_new _ _, hG.size⟩ (hG.trans ((Below.refl _ _).alloc hG.size _)) ((Below.refl _ _).alloc (Nat.le_refl _) _)
              case last27 =>
                intro _ z X hG hd
                obtain ⟨d0, d1⟩ := (LR.out.stay hG).cells
                have hzX := (hG.block _ (lt_heap HZB.out)).trans HZB.out
                have y0 : X.cell? ⟨WB.heap.size, 0, none⟩ = some (.int .i64 Z.status) := by rw [Lib.cell_of_heap hzX]; rfl
                have y1 : X.cell? ⟨WB.heap.size, 1, none⟩ = some (.int .i64 Z.begun) := by rw [Lib.cell_of_heap hzX]; rfl
                have y2 : X.cell? ⟨WB.heap.size, 2, none⟩ = some (.int .i64 Z.last) := by rw [Lib.cell_of_heap hzX]; rfl
                have y3 : X.cell? ⟨WB.heap.size, 3, none⟩ = some (.slice r3 Z.wait.length m3) := by rw [Lib.cell_of_heap hzX]; rfl
                have y4 : X.cell? ⟨WB.heap.size, 4, none⟩ = some (.slice r4 Z.busy.length m4) := by rw [Lib.cell_of_heap hzX]; rfl
                have y5 : X.cell? ⟨WB.heap.size, 5, none⟩ = some (.slice r5 Z.vars.length m5) := by rw [Lib.cell_of_heap hzX]; rfl
                have y6 : X.cell? ⟨WB.heap.size, 6, none⟩ = some (.int .i64 Z.faults) := by rw [Lib.cell_of_heap hzX]; rfl
                obtain ⟨u0, u1, u2, u3, u4, u5⟩ := HEE.out.below hG hgl
                clear hzX
                obtain ⟨h3, h4, h5, x3, x4, x5, qy, hy⟩ : ∃ (h3 h4 h5 : Option Addr) (x3 x4 x5 : Nat), z 6 = .agg #[.int .i64 Y.status, .int .i64 Y.begun, .int .i64 Y.last, .slice h3 Y.wait.length x3, .slice h4 Y.busy.length x4, .slice h5 Y.vars.length x5, .int .i64 Y.faults, .int .i64 0] ∧ StOwn X 0 (.slice h3 Y.wait.length x3) (.slice h4 Y.busy.length x4) (.slice h5 Y.vars.length x5) Y := hd 6 (by decide)
                obtain ⟨g, qg, hB, hgg⟩ : ∃ g : Nat, z 7 = .pointer (some ⟨g, 0, none⟩) ∧ X.heap[g]? = some (.cells [.int .i64 0, .int .i64 0, .int .i64 0, .slice none 0 0, .slice none 0 0, .slice none 0 0, .int .i64 0, .int .i64 0].toArray 35 (0, 0)) ∧ wr.heap.size ≤ g := hd 7 (by decide)
                have e0 : X.cell? ⟨g, 0, none⟩ = some (.int .i64 0) := by rw [Lib.cell_of_heap hB]; rfl
                have e1 : X.cell? ⟨g, 1, none⟩ = some (.int .i64 0) := by rw [Lib.cell_of_heap hB]; rfl
                have e2 : X.cell? ⟨g, 2, none⟩ = some (.int .i64 0) := by rw [Lib.cell_of_heap hB]; rfl
                have e3 : X.cell? ⟨g, 3, none⟩ = some (.slice none 0 0) := by rw [Lib.cell_of_heap hB]; rfl
                have e4 : X.cell? ⟨g, 4, none⟩ = some (.slice none 0 0) := by rw [Lib.cell_of_heap hB]; rfl
                have e5 : X.cell? ⟨g, 5, none⟩ = some (.slice none 0 0) := by rw [Lib.cell_of_heap hB]; rfl
                have e6 : X.cell? ⟨g, 6, none⟩ = some (.int .i64 0) := by rw [Lib.cell_of_heap hB]; rfl
                have e7 : X.cell? ⟨g, 7, none⟩ = some (.int .i64 0) := by rw [Lib.cell_of_heap hB]; rfl
                have fz : ∀ j, X.frozen? ⟨g, j, none⟩ = false := fun j => Lib.frozen_of_heap hB j
                refine op_go rfl rfl ?_
                go_simp
                have hc6 : Chg (fun j => j = g) X ((((((((X.setCell ⟨g, 0, none⟩ (.int .i64 Y.status)).setCell ⟨g, 1, none⟩ (.int .i64 Y.begun)).setCell ⟨g, 2, none⟩ (.int .i64 Y.last)).setCell ⟨g, 3, none⟩ (.slice h3 Y.wait.length x3)).setCell ⟨g, 4, none⟩ (.slice h4 Y.busy.length x4)).setCell ⟨g, 5, none⟩ (.slice h5 Y.vars.length x5)).setCell ⟨g, 6, none⟩ (.int .i64 Y.faults)).setCell ⟨g, 7, none⟩ (.int .i64 0)) := ((((((((Chg.refl _ _).seq _ _).seq _ _).seq _ _).seq _ _).seq _ _).seq _ _).seq _ _).seq _ _
                have HB6 := blk_set (i := 7) (blk_set (i := 6) (blk_set (i := 5) (blk_set (i := 4) (blk_set (i := 3) (blk_set (i := 2) (blk_set (i := 1) (blk_set (i := 0) hB (.int .i64 Y.status)) (.int .i64 Y.begun)) (.int .i64 Y.last)) (.slice h3 Y.wait.length x3)) (.slice h4 Y.busy.length x4)) (.slice h5 Y.vars.length x5)) (.int .i64 Y.faults)) (.int .i64 0)
                generalize (((((((X.setCell ⟨g, 0, none⟩ (.int .i64 Y.status)).setCell ⟨g, 1, none⟩ (.int .i64 Y.begun)).setCell ⟨g, 2, none⟩ (.int .i64 Y.last)).setCell ⟨g, 3, none⟩ (.slice h3 Y.wait.length x3)).setCell ⟨g, 4, none⟩ (.slice h4 Y.busy.length x4)).setCell ⟨g, 5, none⟩ (.slice h5 Y.vars.length x5)).setCell ⟨g, 6, none⟩ (.int .i64 Y.faults)).setCell ⟨g, 7, none⟩ (.int .i64 0) = W6 at *
                have G6 := hid (hG.trans (hc6.below hG.size (fun j hj => by omega)))
                have O6 := hid (hy.turn hc6 hB (by decide) (by decide))
                clear hc6 hG hd hB hy qy qg e0 e1 e2 e3 e4 e5 e6 e7 fz d0 d1 y0 y1 y2 y3 y4 y5 y6 u0 u1 u2 u3 u4 u5 cI
                have x0 : W6.cell? ⟨g, 0, none⟩ = some (.int .i64 Y.status) := by rw [Lib.cell_of_heap HB6]; rfl
                have x1 : W6.cell? ⟨g, 1, none⟩ = some (.int .i64 Y.begun) := by rw [Lib.cell_of_heap HB6]; rfl
                have x2 : W6.cell? ⟨g, 2, none⟩ = some (.int .i64 Y.last) := by rw [Lib.cell_of_heap HB6]; rfl
                have x3' : W6.cell? ⟨g, 3, none⟩ = some (.slice h3 Y.wait.length x3) := by rw [Lib.cell_of_heap HB6]; rfl
                have x4' : W6.cell? ⟨g, 4, none⟩ = some (.slice h4 Y.busy.length x4) := by rw [Lib.cell_of_heap HB6]; rfl
                have x5' : W6.cell? ⟨g, 5, none⟩ = some (.slice h5 Y.vars.length x5) := by rw [Lib.cell_of_heap HB6]; rfl
                have x6 : W6.cell? ⟨g, 6, none⟩ = some (.int .i64 Y.faults) := by rw [Lib.cell_of_heap HB6]; rfl
                have x7 : W6.cell? ⟨g, 7, none⟩ = some (.int .i64 0) := by rw [Lib.cell_of_heap HB6]; rfl
                have hz6 := (G6.out.block _ (lt_heap HZB.out)).trans HZB.out
                have zf : ∀ j, W6.frozen? ⟨WB.heap.size, j, none⟩ = false := fun j => Lib.frozen_of_heap hz6 j
                have v0 : W6.cell? ⟨WB.heap.size, 0, none⟩ = some (.int .i64 Z.status) := by rw [Lib.cell_of_heap hz6]; rfl
                have v1 : W6.cell? ⟨WB.heap.size, 1, none⟩ = some (.int .i64 Z.begun) := by rw [Lib.cell_of_heap hz6]; rfl
                have v2 : W6.cell? ⟨WB.heap.size, 2, none⟩ = some (.int .i64 Z.last) := by rw [Lib.cell_of_heap hz6]; rfl
                have v3 : W6.cell? ⟨WB.heap.size, 3, none⟩ = some (.slice r3 Z.wait.length m3) := by rw [Lib.cell_of_heap hz6]; rfl
                have v4 : W6.cell? ⟨WB.heap.size, 4, none⟩ = some (.slice r4 Z.busy.length m4) := by rw [Lib.cell_of_heap hz6]; rfl
                have v5 : W6.cell? ⟨WB.heap.size, 5, none⟩ = some (.slice r5 Z.vars.length m5) := by rw [Lib.cell_of_heap hz6]; rfl
                have v6 : W6.cell? ⟨WB.heap.size, 6, none⟩ = some (.int .i64 Z.faults) := by rw [Lib.cell_of_heap hz6]; rfl
                have hcz : Chg (fun j => j = WB.heap.size) W6 (((((((W6.setCell ⟨WB.heap.size, 0, none⟩ (.int .i64 Y.status)).setCell ⟨WB.heap.size, 1, none⟩ (.int .i64 Y.begun)).setCell ⟨WB.heap.size, 2, none⟩ (.int .i64 Y.last)).setCell ⟨WB.heap.size, 3, none⟩ (.slice h3 Y.wait.length x3)).setCell ⟨WB.heap.size, 4, none⟩ (.slice h4 Y.busy.length x4)).setCell ⟨WB.heap.size, 5, none⟩ (.slice h5 Y.vars.length x5)).setCell ⟨WB.heap.size, 6, none⟩ (.int .i64 Y.faults)) := (((((((Chg.refl _ _).seq _ _).seq _ _).seq _ _).seq _ _).seq _ _).seq _ _).seq _ _
                have HZ9 := hid (blk_set (i := 6) (blk_set (i := 5) (blk_set (i := 4) (blk_set (i := 3) (blk_set (i := 2) (blk_set (i := 1) (blk_set (i := 0) hz6 (.int .i64 Y.status)) (.int .i64 Y.begun)) (.int .i64 Y.last)) (.slice h3 Y.wait.length x3)) (.slice h4 Y.busy.length x4)) (.slice h5 Y.vars.length x5)) (.int .i64 Y.faults))
                have G9 := hid ((HBR.out.trans (G6.out.mono HBR.out.size)).trans (hcz.below (HBR.out.trans (G6.out.mono HBR.out.size)).size (fun j hj => by omega)))
                have O9 := hid (O6.out.turn hcz hz6 (by decide) (by decide))
                clear hcz HB6 hz6
                go_wp2
                go_roundw
                case rel => exact ⟨k + 1, Y, h3, h4, h5, x3, x4, x5, by go_num, by omega, HY.out, HYO.out, G9.out, HZ9.out, O9.out⟩
                case measure => simp [intOf]; omega
            · obtain rfl : k = l.length := by omega
              have hZT : Z = T9 := by have := HO.out; rw [List.drop_length] at this; exact congrArg Prod.snd this
              subst hZT
              have y0 : wr.cell? ⟨WB.heap.size, 0, none⟩ = some (.int .i64 Z.status) := by rw [Lib.cell_of_heap HZB.out]; rfl
              have y1 : wr.cell? ⟨WB.heap.size, 1, none⟩ = some (.int .i64 Z.begun) := by rw [Lib.cell_of_heap HZB.out]; rfl
              have y2 : wr.cell? ⟨WB.heap.size, 2, none⟩ = some (.int .i64 Z.last) := by rw [Lib.cell_of_heap HZB.out]; rfl
              have y3 : wr.cell? ⟨WB.heap.size, 3, none⟩ = some (.slice r3 Z.wait.length m3) := by rw [Lib.cell_of_heap HZB.out]; rfl
              have y4 : wr.cell? ⟨WB.heap.size, 4, none⟩ = some (.slice r4 Z.busy.length m4) := by rw [Lib.cell_of_heap HZB.out]; rfl
              have y5 : wr.cell? ⟨WB.heap.size, 5, none⟩ = some (.slice r5 Z.vars.length m5) := by rw [Lib.cell_of_heap HZB.out]; rfl
              have y6 : wr.cell? ⟨WB.heap.size, 6, none⟩ = some (.int .i64 Z.faults) := by rw [Lib.cell_of_heap HZB.out]; rfl
              obtain ⟨t0, t1, t2, t3, t4, t5, t6, t7⟩ := OR.out.cells
              go_wp2_with fail
              refine (lwState_any r3 r4 r5 s3 s4 s5 m3 m4 m5 i3 i4 i5 Z wr (own_ssl HZO.out) (own_ssl OR.out.os) hlw.max.1 hlw.max.2.1 hlw.max.2.2).mono ?_
              rintro e WE ⟨rfl, hbe⟩
              have HBE := hid (B13.out.trans ((HBR.out.trans (hbe.mono HBR.out.size)).mono B13.out.size))
              clear hbe
              go_wp2
              go_ret
              exact ⟨rfl, HBE.out⟩
end Go.Proofs.YtdggmeblnbabbaaGreatDoor
