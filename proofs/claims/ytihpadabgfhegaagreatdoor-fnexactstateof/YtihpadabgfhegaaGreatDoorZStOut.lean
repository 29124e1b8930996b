/-
  What laws.eqStateOut, markDef, markState, markStateOut, heldState and heldStateOut do: contracts over the seat's program.
-/
import Derived.Test.YtihpadabgfhegaaGreatDoorZMkP
import Derived.Test.YtihpadabgfhegaaGreatDoorZSpStS
import Derived.Test.YtihpadabgfhegaaGreatDoorZSaLaw
import Derived.Test.YtihpadabgfhegaaGreatDoorZFlLaw2
namespace Go.Proofs.YtihpadabgfhegaaGreatDoor
open Go.RowKit Go.Sort

theorem Chg.of_row {p : Nat → Prop} {w w' : World} {r : Option Nat} (h : w.grownBy w' r) (hp : ∀ j, r = some j → p j) : Chg p w w' := ⟨h.os, h.tape, h.output, h.size, fun k hk hq => h.block k hk (fun e => hq (hp k e.symm))⟩
set_option maxRecDepth 100000 in
set_option maxHeartbeats 2000000 in
theorem eqStateOut_same (lo lo' : Nat) (c : Int) (S : St) (u3 u4 u5 v3 v4 v5 : Value) (w : World) (hO : StOwn w lo u3 u4 u5 S) (hO' : StOwn w lo' v3 v4 v5 S) (n3 : S.wait.length ≤ maxLen) (n4 : S.busy.length ≤ maxLen) (n5 : S.vars.length ≤ maxLen) :
    Calls Tryz.prog 23 #[outV c S u3 u4 u5, outV c S v3 v4 v5] w fun e w' => e = .returned (.bool true) ∧ Below w.heap.size w w' := by
  obtain ⟨a3, a4, a5, k3, k4, k5, rfl, rfl, rfl⟩ := hO.forms
  obtain ⟨b3, b4, b5, c3, c4, c5, rfl, rfl, rfl⟩ := hO'.forms
  have hb := below2 w (.cells #[.int .i64 S.status, .int .i64 S.begun, .int .i64 S.last, .slice a3 S.wait.length k3, .slice a4 S.busy.length k4, .slice a5 S.vars.length k5, .int .i64 S.faults, .int .i64 c] 35) (.cells #[.int .i64 S.status, .int .i64 S.begun, .int .i64 S.last, .slice b3 S.wait.length c3, .slice b4 S.busy.length c4, .slice b5 S.vars.length c5, .int .i64 S.faults, .int .i64 c] 35)
  have h1 := hO.stay hb
  have h2 := hO'.stay hb
  have cE := hid (eqState_same a3 a4 a5 b3 b4 b5 k3 k4 k5 c3 c4 c5 S.status S.begun S.last S.faults S.wait S.busy S.vars _ (str_of_own h1.o3) (str_of_own h1.o4) (pr_of_own h1.o5) (str_of_own h2.o3) (str_of_own h2.o4) (pr_of_own h2.o5) n3 n4 n5)
  have HB := hid hb
  clear h1 h2 hO hO' hb
  unfold outV
  go_enter Tryz.func23, Tryz.ntmps23
  go_wp2_with fail
  refine cE.out.mono ?_
  rintro e W1 ⟨rfl, hb1⟩
  have x7 := (hb1.cell (p := ⟨w.heap.size, 7, none⟩) (by simp; omega)).trans (by simp [go_sem] : _ = some (.int .i64 c))
  have y7 := (hb1.cell (p := ⟨w.heap.size + 1, 7, none⟩) (by simp)).trans (by simp [go_sem] : _ = some (.int .i64 c))
  have HB1 := hid (HB.out.trans (hb1.mono HB.out.size))
  clear hb1 cE
  go_wp2
  go_ret
  exact ⟨rfl, HB1.out⟩
set_option maxRecDepth 100000 in
set_option maxHeartbeats 2000000 in
theorem markDef_own (lo n1 n2 : Nat) (K : Int) (u1 u2 : Value) (xs ys : List Value) (w : World) (o1 : w.ownsRow lo 9 1 u1 n1 xs) (o2 : w.ownsRow lo 41 2 u2 n2 ys) (hK : 0 < K) (hn : K + (n1 : Int) + 2 * (n2 : Int) ≤ 1000000000) :
    Calls Tryz.prog 26 #[.agg #[u1, u2], .int .i64 K] w fun e w' => e = .returned (.int .i64 (K + (n1 : Int) + 2 * (n2 : Int))) ∧ Chg (fun j => u1.ownBlock = some j ∨ u2.ownBlock = some j) w w' := by
  obtain ⟨a1, k1, rfl⟩ := ownB_form o1
  obtain ⟨a2, k2, rfl⟩ := ownB_form o2
  have hb : Below w.heap.size w (w.alloc (.cells #[.slice a1 n1 k1, .slice a2 n2 k2] 26)) := (Below.refl _ _).alloc (Nat.le_refl _) _
  have H1 := hid o1
  have O2 := hid (ownB_stay o2 hb)
  have hne : ¬ (Value.slice a1 n1 k1).ownBlock = some w.heap.size := fun e => by have := (o1.lt _ e).2; omega
  have HA := hid (apart_ty o1 o2 (by decide))
  have cM := hid (markStringS_own _ n1 lo K xs _ (ownB_stay o1 hb) hK (by omega))
  have d1 : (w.alloc (.cells #[.slice a1 n1 k1, .slice a2 n2 k2] 26)).cell? ⟨w.heap.size, 1, none⟩ = some (.slice a2 n2 k2) := by simp [go_sem]
  have D1 := hid d1
  have HB := hid hb
  clear o1 o2 hb d1
  go_enter Tryz.func26, Tryz.ntmps26
  go_wp2_with fail
  refine cM.out.mono ?_
  generalize w.alloc (.cells #[.slice a1 n1 k1, .slice a2 n2 k2] 26) = W at *
  rintro e W1 ⟨rfl, _, hg1⟩
  have hC1 : Chg (fun j => (Value.slice a1 n1 k1).ownBlock = some j) W W1 := Chg.of_row hg1 (fun j h => h)
  have d1 := (hC1.cell (g := w.heap.size) (o := 1) (block_lt_of_cell D1.out) hne).trans D1.out
  have cN := hid (markFlowS_own _ n2 lo (K + (n1 : Int)) ys W1 (own_chg O2.out hC1 (fun g hg he => HA.out g he hg)) (by omega) (by omega))
  have HC1 := hid hC1
  clear hC1 hg1 cM
  go_wp2_with fail
  refine cN.out.mono ?_
  rintro e W2 ⟨rfl, _, hg2⟩
  have HC2 := hid (Chg.of_row (p := fun j => (Value.slice a2 n2 k2).ownBlock = some j) hg2 (fun j h => h))
  clear hg2 cN d1
  go_wp2
  go_ret
  exact ⟨rfl, ((Chg.of_below HB.out).trans (HC1.out.mono (fun j h => .inl h))).trans (HC2.out.mono (fun j h => .inr h))⟩
/-- The blocks of three rows. -/
def P3 (u3 u4 u5 : Value) (j : Nat) : Prop := u3.ownBlock = some j ∨ u4.ownBlock = some j ∨ u5.ownBlock = some j
/-- Marked rows. -/
structure Mkd (w : World) (lo n3 n4 n5 : Nat) (K : Int) (u3 u4 u5 : Value) : Prop where
  o3 : w.ownsRow lo 9 1 u3 n3 ((mkS K n3).map Value.string)
  o4 : w.ownsRow lo 9 1 u4 n4 ((mkS (K + (n3 : Int)) n4).map Value.string)
  o5 : w.ownsRow lo 83 2 u5 n5 ((mkP (K + (n3 : Int) + (n4 : Int)) n5).flatMap Pr.cells)
theorem Mkd.stay {w w' : World} {lo n3 n4 n5 : Nat} {K : Int} {u3 u4 u5 : Value} (h : Mkd w lo n3 n4 n5 K u3 u4 u5) (hb : Below w.heap.size w w') : Mkd w' lo n3 n4 n5 K u3 u4 u5 := ⟨ownB_stay h.o3 hb, ownB_stay h.o4 hb, ownB_stay h.o5 hb⟩
set_option maxRecDepth 100000 in
set_option maxHeartbeats 2000000 in
theorem markState_own (lo n3 n4 n5 : Nat) (K st bg la fa : Int) (u3 u4 u5 : Value) (xs ys zs : List Value) (w : World) (o3 : w.ownsRow lo 9 1 u3 n3 xs) (o4 : w.ownsRow lo 9 1 u4 n4 ys) (o5 : w.ownsRow lo 83 2 u5 n5 zs) (a34 : Apart u3 u4) (hK : 0 < K) (hn : K + (n3 : Int) + (n4 : Int) + 2 * (n5 : Int) ≤ 1000000000) :
    Calls Tryz.prog 27 #[.agg #[.int .i64 st, .int .i64 bg, .int .i64 la, u3, u4, u5, .int .i64 fa], .int .i64 K] w fun e w' => e = .returned (.int .i64 (K + (n3 : Int) + (n4 : Int) + 2 * (n5 : Int))) ∧ Mkd w' lo n3 n4 n5 K u3 u4 u5 ∧ Chg (P3 u3 u4 u5) w w' := by
  have a35 := apart_ty o3 o5 (by decide)
  have a45 := apart_ty o4 o5 (by decide)
  obtain ⟨a3, k3, rfl⟩ := ownB_form o3
  obtain ⟨a4, k4, rfl⟩ := ownB_form o4
  obtain ⟨a5, k5, rfl⟩ := ownB_form o5
  have hb : Below w.heap.size w (w.alloc (.cells #[.int .i64 st, .int .i64 bg, .int .i64 la, .slice a3 n3 k3, .slice a4 n4 k4, .slice a5 n5 k5, .int .i64 fa] 29)) := (Below.refl _ _).alloc (Nat.le_refl _) _
  have O4 := hid (ownB_stay o4 hb)
  have O5 := hid (ownB_stay o5 hb)
  have hn3 : ¬ (Value.slice a3 n3 k3).ownBlock = some w.heap.size := fun e => by have := (o3.lt _ e).2; omega
  have hn4 : ¬ (Value.slice a4 n4 k4).ownBlock = some w.heap.size := fun e => by have := (o4.lt _ e).2; omega
  have A34 := hid a34
  have A35 := hid a35
  have A45 := hid a45
  have cM := hid (markStringS_own _ n3 lo K xs _ (ownB_stay o3 hb) hK (by omega))
  have D4 := hid (show (w.alloc (.cells #[.int .i64 st, .int .i64 bg, .int .i64 la, .slice a3 n3 k3, .slice a4 n4 k4, .slice a5 n5 k5, .int .i64 fa] 29)).cell? ⟨w.heap.size, 4, none⟩ = some (.slice a4 n4 k4) by simp [go_sem])
  have D5 := hid (show (w.alloc (.cells #[.int .i64 st, .int .i64 bg, .int .i64 la, .slice a3 n3 k3, .slice a4 n4 k4, .slice a5 n5 k5, .int .i64 fa] 29)).cell? ⟨w.heap.size, 5, none⟩ = some (.slice a5 n5 k5) by simp [go_sem])
  have HB := hid hb
  clear o3 o4 o5 hb a34 a35 a45
  go_enter Tryz.func27, Tryz.ntmps27
  go_wp2_with fail
  refine cM.out.mono ?_
  generalize w.alloc (.cells #[.int .i64 st, .int .i64 bg, .int .i64 la, .slice a3 n3 k3, .slice a4 n4 k4, .slice a5 n5 k5, .int .i64 fa] 29) = W at *
  rintro e W1 ⟨rfl, hm1, hg1⟩
  have hC1 : Chg (fun j => (Value.slice a3 n3 k3).ownBlock = some j) W W1 := Chg.of_row hg1 (fun j h => h)
  have d4 := (hC1.cell (g := w.heap.size) (o := 4) (block_lt_of_cell D4.out) hn3).trans D4.out
  have D51 := hid ((hC1.cell (g := w.heap.size) (o := 5) (block_lt_of_cell D5.out) hn3).trans D5.out)
  have cN := hid (markStringS_own _ n4 lo (K + (n3 : Int)) ys W1 (own_chg O4.out hC1 (fun g hg he => A34.out g he hg)) (by omega) (by omega))
  have O51 := hid (own_chg O5.out hC1 (fun g hg he => A35.out g he hg))
  have M1 := hid hm1
  have HC1 := hid hC1
  clear hC1 hg1 cM hm1
  go_wp2_with fail
  refine cN.out.mono ?_
  rintro e W2 ⟨rfl, hm2, hg2⟩
  have hC2 : Chg (fun j => (Value.slice a4 n4 k4).ownBlock = some j) W1 W2 := Chg.of_row hg2 (fun j h => h)
  have d5 := (hC2.cell (g := w.heap.size) (o := 5) (block_lt_of_cell D51.out) hn4).trans D51.out
  have cQ := hid (markVarS_own _ n5 lo (K + (n3 : Int) + (n4 : Int)) zs W2 (own_chg O51.out hC2 (fun g hg he => A45.out g he hg)) (by omega) (by omega))
  have M12 := hid (own_chg M1.out hC2 (fun g hg he => A34.out g hg he))
  have M2 := hid hm2
  have HC2 := hid hC2
  clear hC2 hg2 cN hm2 d4
  go_wp2_with fail
  refine cQ.out.mono ?_
  rintro e W3 ⟨rfl, hm3, hg3⟩
  have HC3 := hid (Chg.of_row (p := fun j => (Value.slice a5 n5 k5).ownBlock = some j) hg3 (fun j h => h))
  have M13 := hid (own_chg M12.out HC3.out (fun g hg he => A35.out g hg he))
  have M23 := hid (own_chg M2.out HC3.out (fun g hg he => A45.out g hg he))
  have M3 := hid hm3
  clear hg3 cQ hm3 d5
  go_wp2
  go_ret
  exact ⟨rfl, ⟨M13.out, M23.out, M3.out⟩, (((Chg.of_below HB.out).trans (HC1.out.mono (fun j h => .inl h))).trans (HC2.out.mono (fun j h => .inr (.inl h)))).trans (HC3.out.mono (fun j h => .inr (.inr h)))⟩
set_option maxRecDepth 100000 in
set_option maxHeartbeats 2000000 in
theorem markStateOut_own (lo : Nat) (c : Int) (S : St) (u3 u4 u5 : Value) (w : World) (hO : StOwn w lo u3 u4 u5 S) (hn : (S.wait.length : Int) + (S.busy.length : Int) + 2 * (S.vars.length : Int) ≤ 999999) :
    Calls Tryz.prog 28 #[outV c S u3 u4 u5, .int .i64 1] w fun e w' => e = .returned (.int .i64 (1 + (S.wait.length : Int) + (S.busy.length : Int) + 2 * (S.vars.length : Int))) ∧ Mkd w' lo S.wait.length S.busy.length S.vars.length 1 u3 u4 u5 ∧ Chg (P3 u3 u4 u5) w w' := by
  obtain ⟨a3, a4, a5, k3, k4, k5, rfl, rfl, rfl⟩ := hO.forms
  have hb : Below w.heap.size w (w.alloc (.cells #[.int .i64 S.status, .int .i64 S.begun, .int .i64 S.last, .slice a3 S.wait.length k3, .slice a4 S.busy.length k4, .slice a5 S.vars.length k5, .int .i64 S.faults, .int .i64 c] 35)) := (Below.refl _ _).alloc (Nat.le_refl _) _
  have h1 := hO.stay hb
  have cM := hid (markState_own lo _ _ _ 1 S.status S.begun S.last S.faults _ _ _ _ _ _ _ h1.o3 h1.o4 h1.o5 h1.a34 (by omega) (by omega))
  have HB := hid hb
  clear h1 hO hb
  unfold outV
  go_enter Tryz.func28, Tryz.ntmps28
  go_wp2_with fail
  refine cM.out.mono ?_
  rintro e W1 ⟨rfl, hM, hC⟩
  have HM := hid hM
  have HC := hid hC
  clear hM hC cM
  go_wp2
  go_ret
  exact ⟨rfl, HM.out, (Chg.of_below HB.out).trans HC.out⟩
set_option maxRecDepth 100000 in
set_option maxHeartbeats 2000000 in
theorem heldState_own (lo n3 n4 n5 : Nat) (st bg la fa : Int) (u3 u4 u5 : Value) (w : World) (h : Mkd w lo n3 n4 n5 1 u3 u4 u5) (hn : (n3 : Int) + (n4 : Int) + 2 * (n5 : Int) ≤ 999999) :
    Calls Tryz.prog 65 #[.agg #[.int .i64 st, .int .i64 bg, .int .i64 la, u3, u4, u5, .int .i64 fa], .int .i64 1] w fun e w' => e = .returned (.int .i64 (1 + (n3 : Int) + (n4 : Int) + 2 * (n5 : Int))) ∧ Below w.heap.size w w' := by
  obtain ⟨a3, k3, rfl⟩ := ownB_form h.o3
  obtain ⟨a4, k4, rfl⟩ := ownB_form h.o4
  obtain ⟨a5, k5, rfl⟩ := ownB_form h.o5
  have hb : Below w.heap.size w (w.alloc (.cells #[.int .i64 st, .int .i64 bg, .int .i64 la, .slice a3 n3 k3, .slice a4 n4 k4, .slice a5 n5 k5, .int .i64 fa] 29)) := (Below.refl _ _).alloc (Nat.le_refl _) _
  have HH := hid (h.stay hb)
  have cM := hid (heldStringS_own _ n3 lo 1 _ HH.out.o3 (by omega) (by omega))
  have D4 := hid (show (w.alloc (.cells #[.int .i64 st, .int .i64 bg, .int .i64 la, .slice a3 n3 k3, .slice a4 n4 k4, .slice a5 n5 k5, .int .i64 fa] 29)).cell? ⟨w.heap.size, 4, none⟩ = some (.slice a4 n4 k4) by simp [go_sem])
  have D5 := hid (show (w.alloc (.cells #[.int .i64 st, .int .i64 bg, .int .i64 la, .slice a3 n3 k3, .slice a4 n4 k4, .slice a5 n5 k5, .int .i64 fa] 29)).cell? ⟨w.heap.size, 5, none⟩ = some (.slice a5 n5 k5) by simp [go_sem])
  have HB := hid hb
  clear h hb
  go_enter Tryz.func65, Tryz.ntmps65
  go_wp2_with fail
  refine cM.out.mono ?_
  generalize w.alloc (.cells #[.int .i64 st, .int .i64 bg, .int .i64 la, .slice a3 n3 k3, .slice a4 n4 k4, .slice a5 n5 k5, .int .i64 fa] 29) = W at *
  rintro e W1 ⟨rfl, hb1⟩
  have d4 := (hb1.cell (block_lt_of_cell D4.out)).trans D4.out
  have D51 := hid ((hb1.cell (block_lt_of_cell D5.out)).trans D5.out)
  have H1 := hid (HH.out.stay hb1)
  have HB1 := hid (HB.out.trans (hb1.mono HB.out.size))
  have cN := hid (heldStringS_own _ n4 lo (1 + (n3 : Int)) W1 H1.out.o4 (by omega) (by omega))
  have hp1 : ¬ 1 + (n3 : Int) < 0 := by omega
  clear hb1 cM
  go_wp2_with fail
  refine cN.out.mono ?_
  rintro e W2 ⟨rfl, hb2⟩
  have d5 := (hb2.cell (block_lt_of_cell D51.out)).trans D51.out
  have H2 := hid (H1.out.stay hb2)
  have HB2 := hid (HB1.out.trans (hb2.mono HB1.out.size))
  have cQ := hid (heldVarS_own _ n5 lo (1 + (n3 : Int) + (n4 : Int)) W2 H2.out.o5 (by omega) (by omega))
  have hp2 : ¬ 1 + (n3 : Int) + (n4 : Int) < 0 := by omega
  clear hb2 cN d4
  go_wp2_with fail
  refine cQ.out.mono ?_
  rintro e W3 ⟨rfl, hb3⟩
  have HB3 := hid (HB2.out.trans (hb3.mono HB2.out.size))
  have hp3 : ¬ 1 + (n3 : Int) + (n4 : Int) + 2 * (n5 : Int) < 0 := by omega
  clear hb3 cQ d5
  go_wp2
  go_ret
  exact ⟨rfl, HB3.out⟩
set_option maxRecDepth 100000 in
set_option maxHeartbeats 2000000 in
theorem heldStateOut_own (lo n3 n4 n5 : Nat) (c st bg la fa : Int) (u3 u4 u5 : Value) (w : World) (h : Mkd w lo n3 n4 n5 1 u3 u4 u5) (hn : (n3 : Int) + (n4 : Int) + 2 * (n5 : Int) ≤ 999999) :
    Calls Tryz.prog 29 #[.agg #[.int .i64 st, .int .i64 bg, .int .i64 la, u3, u4, u5, .int .i64 fa, .int .i64 c], .int .i64 1] w fun e w' => e = .returned (.int .i64 (1 + (n3 : Int) + (n4 : Int) + 2 * (n5 : Int))) ∧ Below w.heap.size w w' := by
  obtain ⟨a3, k3, rfl⟩ := ownB_form h.o3
  obtain ⟨a4, k4, rfl⟩ := ownB_form h.o4
  obtain ⟨a5, k5, rfl⟩ := ownB_form h.o5
  have hb : Below w.heap.size w (w.alloc (.cells #[.int .i64 st, .int .i64 bg, .int .i64 la, .slice a3 n3 k3, .slice a4 n4 k4, .slice a5 n5 k5, .int .i64 fa, .int .i64 c] 35)) := (Below.refl _ _).alloc (Nat.le_refl _) _
  have cM := hid (heldState_own lo n3 n4 n5 st bg la fa _ _ _ _ (h.stay hb) hn)
  have HB := hid hb
  clear h hb
  go_enter Tryz.func29, Tryz.ntmps29
  go_wp2_with fail
  refine cM.out.mono ?_
  rintro e W1 ⟨rfl, hb1⟩
  have HB1 := hid (HB.out.trans (hb1.mono HB.out.size))
  have hp3 : ¬ 1 + (n3 : Int) + (n4 : Int) + 2 * (n5 : Int) < 0 := by omega
  clear hb1 cM
  go_wp2
  go_ret
  exact ⟨rfl, HB1.out⟩
end Go.Proofs.YtihpadabgfhegaaGreatDoor
